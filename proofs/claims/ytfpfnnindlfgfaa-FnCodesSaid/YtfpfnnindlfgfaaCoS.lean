/- RecodeControl: the model's text. -/
import Derived.Test.YtfpfnnindlfgfaaCoC
import Derived.Test.YtfpfnnindlfgfaaCoB
import Derived.Test.YtfpfnnindlfgfaaA3
import Derived.Test.YtfpfnnindlfgfaaCoR
import Derived.Deep.LoopGhost
import Derived.Deep.CutRange
import Derived.Deep.DeepCutAuto
import Derived.Deep.RegionHeld3
namespace Go.Proofs.Ytfpfnnindlfgfaa.CoS
open Go.RowKit Lb IntS CtK CoM CoP CoF CoC CoB CoR
open Bk (Blk)
set_option linter.unusedSimpArgs false
set_option linter.unusedVariables false

theorem ins_some {W wF : World} {v : Value} {rs : List Ct} {x : Ct} {base n k m : Nat} (h : A3.G3 W 58 2 wF v (0 + k + 1 + m) (([] ++ cells (rs.take k) ++ cells [x]) ++ cells (rs.drop k))) (hb : base ≤ W.heap.size) (hn : rs.length = n) (hk : k ≤ n) (hm : m = n - k) (hp : pl rs x.co = k) : Own wF base v (insR rs x) := by
  have h1 := h.own
  have hl : (rs.take k ++ [x] ++ rs.drop k).length = 0 + k + 1 + m := by simp only [List.length_append, List.length_take, List.length_drop, List.length_cons, List.length_nil]; omega
  have h2 : Own wF W.heap.size v (rs.take k ++ [x] ++ rs.drop k) := by
    unfold Own
    rw [hl, cells_cat, cells_cat]
    rwa [List.nil_append] at h1
  unfold insR
  rw [hp]
  exact h2.rebase hb
theorem ins_nil {W wF : World} {v : Value} {rs : List Ct} {x : Ct} {base : Nat} (h : A3.G3 W 58 2 wF v (0 + 1) ([] ++ cells [x])) (hb : base ≤ W.heap.size) (hn : rs.length = 0) : Own wF base v (insR rs x) := by
  obtain rfl : rs = [] := List.eq_nil_of_length_eq_zero hn
  have h2 : Own wF W.heap.size v [x] := h.own
  have h3 := h2.rebase hb
  simpa [insR] using h3

set_option maxRecDepth 20000 in
set_option maxHeartbeats 8000000 in
theorem recode_spec (m : Mp) (cs : List Ct) (hl : cs.length ≤ 1048576) (hR : m.R.length ≤ maxLen) (hC : m.C.length ≤ maxLen) (x tz : Int) (a b : Option Addr) (ca cb : Nat) (ad : Option Addr) (cap : Nat) (w : World) (hcap : cs.length ≤ cap) (h : Rd m cs a b ad w) :
    Calls Try.prog 42 #[.agg #[.int .i64 m.W, .int .i64 m.H, .slice a m.R.length ca, .slice b m.C.length cb], .slice ad cs.length cap, .int .i64 x, .int .i64 tz] w (LPost w (rcL m cs x tz) (rcO m cs x tz)) := by
  obtain ⟨t0, hi0, hz0, hz1, hz2⟩ := info_parts info
  have HB := Lib.hid ((Below.refl w.heap.size w).alloc (Nat.le_refl _) (.cells #[.int .i64 m.W, .int .i64 m.H, .slice a m.R.length ca, .slice b m.C.length cb] 26))
  have HK := Lib.hid (Blk.new w 26 #[.int .i64 m.W, .int .i64 m.H, .slice a m.R.length ca, .slice b m.C.length cb])
  have HR := Lib.hid h
  obtain ⟨g, hg⟩ : ∃ g, goodB m cs = g := ⟨_, rfl⟩
  have c1 := Lib.hid (fun w h => hg ▸ spec_good m cs hl hR hC a b ca cb ad cap w h)
  have c2 := Lib.hid (fun w h => find_any cs hl x ad cap w h)
  have HG := Lib.hid hg
  obtain ⟨ok, hok⟩ : ∃ o, rcO m cs x tz = o := ⟨_, rfl⟩
  obtain ⟨z, hz⟩ : ∃ z, rcL m cs x tz = z := ⟨_, rfl⟩
  have HO := Lib.hid hok
  have HZ := Lib.hid hz
  have HBAD := Lib.hid (fun e : ok = false => show z = [] from by rw [← hz]; unfold rcL; rw [hok, e]; rfl)
  rw [hok, hz]
  clear h hg hok hz
  obtain ⟨f, hf⟩ : ∃ f, fiZ cs x = f := ⟨_, rfl⟩
  have hcase := fi_cases cs x
  rw [hf] at c2 hcase
  have HF0 := Lib.hid hf
  have HCs := Lib.hid hcase
  clear hf hcase
  go_enter Try.func42, Try.ntmps42
  go_wp2_with fail
  refine (c2.out _ (HR.out.later HB.out).l).mono ?_
  rintro e w1 ⟨rfl, rfl⟩
  obtain ⟨p0, p1, p2, p3, -⟩ := MapS.Blk.four HK.out
  go_wp2_with fail
  refine (c1.out _ (HR.out.later HB.out)).mono ?_
  rintro e w2 ⟨rfl, hb⟩
  have HB2 := Lib.hid (HB.out.trans (hb.mono HB.out.size))
  have HK2 := Lib.hid (HK.out.later hb)
  have hsz2 := HB2.out.size
  clear hb HB HK p0 p1 p2 p3
  cases g with
  | false =>
    have h1 : ok = false := by rw [← HO.out]; unfold rcO; rw [HG.out]; rfl
    obtain rfl := HBAD.out h1
    subst h1
    go_wp2
    go_ret2
    exact ⟨_, rfl, own_none w2 w.heap.size hsz2, HB2.out.alloc hsz2 _⟩
  | true =>
  rcases HCs.out with h0 | ⟨k, h0, hkl, hkc⟩
  · have h1 : ok = false := by rw [← HO.out]; unfold rcO; rw [HF0.out, h0]; simp
    obtain rfl := HBAD.out h1
    subst h1 h0
    go_wp2
    go_ret2
    exact ⟨_, rfl, own_none w2 w.heap.size hsz2, HB2.out.alloc hsz2 _⟩
  subst h0
  have hfk := HF0.out
  have hd : decide ((k : Int) < 0) = false := decide_eq_false (by omega)
  have hA := Lib.hid (good_asc HG.out)
  have hc10 := good_len HG.out
  obtain ⟨y, rfl, hy⟩ : ∃ y : Ct, tz = y.co ∧ y.ce = (at_ cs k).ce := ⟨⟨tz, (at_ cs k).ce⟩, rfl, rfl⟩
  have HS := Lib.hid (show rcS cs x y.co = insR (rsT cs k) y from rc_at hfk hy)
  obtain ⟨b1, off, hadr, k0, k1⟩ := (HR.out.later HB2.out).l.cells hkl
  obtain ⟨b', off', hadr', j0, j1⟩ := HR.out.l.cells hkl
  subst hadr
  cases hadr'
  rw [← hy] at j1
  have HF := Lib.hid (fun (wx : World) (hb : Below w.heap.size w wx) => (hb.cell (World.block_lt_of_cell? _ _ j1)).trans j1)
  obtain ⟨g2, hg2⟩ : ∃ g, goodB m (rcS cs x y.co) = g := ⟨_, rfl⟩
  have HG2 := Lib.hid hg2
  have HO2 := Lib.hid (show ok = g2 from by rw [← HO.out]; unfold rcO; rw [HG.out, hfk, hg2]; simp)
  obtain ⟨n, hn⟩ : ∃ n, cs.length = n := ⟨_, rfl⟩
  have HN := Lib.hid hn
  have hkt : (cs.take k).length = k := by rw [List.length_take]; omega
  have hKl : (cells (cs.take k)).length = k * 2 := by rw [cells_len, hkt]
  have HKt := Lib.hid hkt
  obtain ⟨q, hq⟩ : ∃ q, k + 1 = q := ⟨_, rfl⟩
  have hmt : (cs.drop q).length = n - q := by rw [List.length_drop, hn]
  have hTl : (cells (cs.drop q)).length = (n - q) * 2 := by rw [cells_len, hmt]
  have hwq : IntKind.i64.wrap ((k : Int) + 1) = (q : Int) := by rw [IntWalk.i64_in _ (by omega)]; omega
  have HQ := Lib.hid hq
  have HMt := Lib.hid hmt
  have HR2 := Lib.hid (HR.out.later HB2.out)
  have HTk := Lib.hid (fun W' (hW : Below w2.heap.size w2 W') => ((Row.take HR2.out.l k).later hW).news)
  have HDr := Lib.hid (fun W' (hW : Below w2.heap.size w2 W') => ((Row.drop HR2.out.l q).later hW).news)
  rw [hn] at hkl hl hc10 hcap ⊢
  have hqn : q ≤ n := by omega
  clear hfk hg2 hn hkc hy k0 k1 j0 j1 hkt hmt hq
  have hkk0 : (0 : Int) ≤ (k : Int) := by omega
  have hkk1 : (k : Int) < (n : Int) := by omega
  have hkc : k ≤ cap := by omega
  have hkc2 : (k : Int) ≤ (cap : Int) := by omega
  have hnc : (n : Int) ≤ (cap : Int) := by omega
  have hq0 : (0 : Int) ≤ (q : Int) := by omega
  have hq1 : (q : Int) ≤ (n : Int) := by omega
  go_upto_region 4 with (fail)
  go_cut [11] from 26 to 36 (fun s wx => ∃ (a3 : Option Addr) (cp3 : Nat), s = .slice a3 (n - 1) cp3 ∧ n - 1 ≤ cp3 ∧ Row wx a3 (rsT cs k) ∧ Below w.heap.size w wx ∧ Blk wx w.heap.size 26 #[.int .i64 m.W, .int .i64 m.H, .slice a m.R.length ca, .slice b m.C.length cb])
  case first =>
    have hrl := Lib.hid (rs_len HN.out hkl)
    by_cases hce : cap = q
    · subst hce
      obtain rfl : n = cap := by omega
      have hkc9 : (k : Int) ≤ (n : Int) := by omega
      refine wp_region_noPanic ?_
      refine wp_region_held_drew (S := (fun _ : World => True)) (by kernel_rfl) trivial (fun hHeld => ?_)
      refine wpAnyH_take (i := 1) (oi := _) (v := ?_) rfl (by kernel_rfl) (by kernel_rfl) (by kernel_rfl) (fun _ _ _ h => h) (Or.inl ⟨by rfl, ?_⟩) (by assumption) ?_; rotate_left; focus (intro W hSw; (try dsimp only at hSw); go_simp; (first | done | with_reducible rfl))
      (try simp only [List.getElem_toArray, List.getElem_cons_succ, List.getElem_cons_zero, Act.put, List.setIfInBounds_toArray, List.set_cons_zero, List.set_cons_succ])
      refine wpAnyH_take (i := 2) (oi := _) (v := ?_) rfl (by kernel_rfl) (by kernel_rfl) (by kernel_rfl) (fun _ _ _ h => h) (Or.inl ⟨by rfl, ?_⟩) (by assumption) ?_; rotate_left; focus (intro W hSw; (try dsimp only at hSw); go_simp; (first | done | with_reducible rfl))
      (try simp only [List.getElem_toArray, List.getElem_cons_succ, List.getElem_cons_zero, Act.put, List.setIfInBounds_toArray, List.set_cons_zero, List.set_cons_succ])
      refine wpAnyH_take (i := 3) (oi := _) (v := ?_) rfl (by kernel_rfl) (by kernel_rfl) (by kernel_rfl) (fun _ _ _ h => h) (Or.inl ⟨by rfl, ?_⟩) (by assumption) ?_; rotate_left; focus (intro W hSw; (try dsimp only at hSw); go_simp; (first | done | with_reducible rfl))
      (try simp only [List.getElem_toArray, List.getElem_cons_succ, List.getElem_cons_zero, Act.put, List.setIfInBounds_toArray, List.set_cons_zero, List.set_cons_succ])
      refine wpAnyH_take (i := 5) (oi := _) (v := ?_) rfl (by kernel_rfl) (by kernel_rfl) (by kernel_rfl) (fun _ _ _ h => h) (Or.inl ⟨by rfl, ?_⟩) (by assumption) ?_; rotate_left; focus (intro W hSw; (try dsimp only at hSw); go_simp; (first | done | with_reducible rfl))
      (try simp only [List.getElem_toArray, List.getElem_cons_succ, List.getElem_cons_zero, Act.put, List.setIfInBounds_toArray, List.set_cons_zero, List.set_cons_succ])
      refine wpAnyH_take (i := 6) (oi := _) (v := ?_) rfl (by kernel_rfl) (by kernel_rfl) (by kernel_rfl) (fun _ _ _ h => h) (Or.inl ⟨by rfl, ?_⟩) (by assumption) ?_; rotate_left; focus (intro W hSw; (try dsimp only at hSw); go_simp; (first | done | with_reducible rfl))
      (try simp only [List.getElem_toArray, List.getElem_cons_succ, List.getElem_cons_zero, Act.put, List.setIfInBounds_toArray, List.set_cons_zero, List.set_cons_succ])
      refine wpAnyH_take (i := 7) (oi := _) (v := ?_) rfl (by kernel_rfl) (by kernel_rfl) (by kernel_rfl) (fun _ _ _ h => h) (Or.inl ⟨by rfl, ?_⟩) (by assumption) ?_; rotate_left; focus (intro W hSw; (try dsimp only at hSw); go_simp; (first | done | with_reducible rfl))
      (try simp only [List.getElem_toArray, List.getElem_cons_succ, List.getElem_cons_zero, Act.put, List.setIfInBounds_toArray, List.set_cons_zero, List.set_cons_succ])
      refine wpAnyH_take (i := 8) (oi := _) (v := ?_) rfl (by kernel_rfl) (by kernel_rfl) (by kernel_rfl) (fun _ _ _ h => h) (Or.inl ⟨by rfl, ?_⟩) (by assumption) ?_; rotate_left; focus (intro W hSw; (try dsimp only at hSw); go_simp; (first | done | with_reducible rfl))
      (try simp only [List.getElem_toArray, List.getElem_cons_succ, List.getElem_cons_zero, Act.put, List.setIfInBounds_toArray, List.set_cons_zero, List.set_cons_succ])
      refine wpAnyH_ready (rs := [0]) (by kernel_rfl) (by simp) ?_
      refine AllReadyH.cons (o := _) rfl (fun K hK => ?_) AllReadyH.nil
      go_simp
      have HG0 := Lib.hid (A3.G3.start w2 58 2)
      (try simp only [Act.put, List.setIfInBounds_toArray, List.set_cons_zero, List.set_cons_succ])
      refine hK.out _ _ trivial (fun _ => ?_)
      clear hK K hHeld
      refine wpAnyH_ready (rs := [4]) (by kernel_rfl) (by simp) ?_
      refine AllReadyH.cons (o := _) rfl (fun K hK => ?_) AllReadyH.nil
      rw [if_pos (by rfl)]
      refine HG0.out.wp (.tmp 26) (.tmp 29) 40 rfl Try.underlying40 t0 hi0 (.agg #[.int .i64 no.co, .int .i64 no.ce]) hz0 16 hz1 hz2 rfl (by decide) (by rfl) (⟨b1, off, none⟩) (k) (_) (cells (cs.take k)) (by (try simp only [Act.eval, Act.put]); rfl) (hKl) (HTk.out _ HG0.out.b) (cells_one _) (by unfold maxLen; omega) (by omega) ?_
      intro v3 w3 hg hgr
      have HG3 := Lib.hid hg
      have HGR3 := Lib.hid hgr
      clear hg hgr
      (try simp only [Act.put, List.setIfInBounds_toArray, List.set_cons_zero, List.set_cons_succ])
      refine hK.out _ _ trivial (fun _ => ?_)
      clear hK K
      refine wpAnyH_ready (rs := [9]) (by kernel_rfl) (by simp) ?_
      refine AllReadyH.cons (o := _) rfl (fun K hK => ?_) AllReadyH.nil
      rw [if_pos (by rfl)]
      refine HG3.out.wp (.tmp 30) (.tmp 34) 40 rfl Try.underlying40 t0 hi0 (.agg #[.int .i64 no.co, .int .i64 no.ce]) hz0 16 hz1 hz2 rfl (by decide) (by rfl) (_) (0) (_) ([]) (by (try simp only [Act.eval, Act.put]); rfl) (rfl) (fun j u h => absurd h (by simp)) (by simp) (by unfold maxLen; omega) (by omega) ?_
      intro v5 w5 hg hgr
      have HG5 := Lib.hid hg
      have HGR5 := Lib.hid hgr
      clear hg hgr
      (try simp only [Act.put, List.setIfInBounds_toArray, List.set_cons_zero, List.set_cons_succ])
      refine hK.out _ _ trivial (fun _ => ?_)
      clear hK K
      refine wpAnyH_take (i := 10) (oi := _) (v := ?_) rfl (by kernel_rfl) (by kernel_rfl) (by kernel_rfl) (fun _ _ _ h => h) (Or.inl ⟨by rfl, ?_⟩) (by assumption) ?_; rotate_left; focus (intro W hSw; (try dsimp only at hSw); go_simp; (first | done | with_reducible rfl))
      (try simp only [List.getElem_toArray, List.getElem_cons_succ, List.getElem_cons_zero, Act.put, List.setIfInBounds_toArray, List.set_cons_zero, List.set_cons_succ])
      refine wpAnyH_done (by kernel_rfl) ?_ _
      refine NoPanic.normal ?_
      (try simp only [List.getElem_toArray, List.getElem_cons_succ, List.getElem_cons_zero, Act.put, List.setIfInBounds_toArray, List.set_cons_zero, List.set_cons_succ])
      go_wp2
      go_meet
      have hO5 : Own w5 w2.heap.size v5 (rsT cs k) := by
        have e : cs.drop (k + 1) = [] := List.drop_eq_nil_of_le (by rw [HN.out, HQ.out]; omega)
        have h := HG5.out
        rw [Nat.zero_add, List.nil_append] at h
        have h := own_two (qs := []) (base := w2.heap.size) h (Nat.le_refl _) HKt.out rfl
        unfold rsT
        rw [e]
        exact h
      obtain ⟨a5, cp5, hv5, hr5, -⟩ := hO5.slice
      subst hv5
      have hle := hO5.le
      rw [hrl.out] at hle ⊢
      exact ⟨_, _, rfl, hle, hr5, HB2.out.trans (HG5.out.b.mono HB2.out.size), HK2.out.later HG5.out.b⟩
    · have hce' : ¬ cap = q := hce
      refine wp_region_noPanic ?_
      refine wp_region_held_drew (S := (fun _ : World => True)) (by kernel_rfl) trivial (fun hHeld => ?_)
      refine wpAnyH_take (i := 1) (oi := _) (v := ?_) rfl (by kernel_rfl) (by kernel_rfl) (by kernel_rfl) (fun _ _ _ h => h) (Or.inl ⟨by rfl, ?_⟩) (by assumption) ?_; rotate_left; focus (intro W hSw; (try dsimp only at hSw); go_simp; (first | done | with_reducible rfl))
      (try simp only [List.getElem_toArray, List.getElem_cons_succ, List.getElem_cons_zero, Act.put, List.setIfInBounds_toArray, List.set_cons_zero, List.set_cons_succ])
      refine wpAnyH_take (i := 2) (oi := _) (v := ?_) rfl (by kernel_rfl) (by kernel_rfl) (by kernel_rfl) (fun _ _ _ h => h) (Or.inl ⟨by rfl, ?_⟩) (by assumption) ?_; rotate_left; focus (intro W hSw; (try dsimp only at hSw); go_simp; (first | done | with_reducible rfl))
      (try simp only [List.getElem_toArray, List.getElem_cons_succ, List.getElem_cons_zero, Act.put, List.setIfInBounds_toArray, List.set_cons_zero, List.set_cons_succ])
      refine wpAnyH_take (i := 3) (oi := _) (v := ?_) rfl (by kernel_rfl) (by kernel_rfl) (by kernel_rfl) (fun _ _ _ h => h) (Or.inl ⟨by rfl, ?_⟩) (by assumption) ?_; rotate_left; focus (intro W hSw; (try dsimp only at hSw); go_simp; (first | done | with_reducible rfl))
      (try simp only [List.getElem_toArray, List.getElem_cons_succ, List.getElem_cons_zero, Act.put, List.setIfInBounds_toArray, List.set_cons_zero, List.set_cons_succ])
      refine wpAnyH_take (i := 5) (oi := _) (v := ?_) rfl (by kernel_rfl) (by kernel_rfl) (by kernel_rfl) (fun _ _ _ h => h) (Or.inl ⟨by rfl, ?_⟩) (by assumption) ?_; rotate_left; focus (intro W hSw; (try dsimp only at hSw); go_simp; (first | done | with_reducible rfl))
      (try simp only [List.getElem_toArray, List.getElem_cons_succ, List.getElem_cons_zero, Act.put, List.setIfInBounds_toArray, List.set_cons_zero, List.set_cons_succ])
      refine wpAnyH_take (i := 6) (oi := _) (v := ?_) rfl (by kernel_rfl) (by kernel_rfl) (by kernel_rfl) (fun _ _ _ h => h) (Or.inl ⟨by rfl, ?_⟩) (by assumption) ?_; rotate_left; focus (intro W hSw; (try dsimp only at hSw); go_simp; (first | done | with_reducible rfl))
      (try simp only [List.getElem_toArray, List.getElem_cons_succ, List.getElem_cons_zero, Act.put, List.setIfInBounds_toArray, List.set_cons_zero, List.set_cons_succ])
      refine wpAnyH_take (i := 7) (oi := _) (v := ?_) rfl (by kernel_rfl) (by kernel_rfl) (by kernel_rfl) (fun _ _ _ h => h) (Or.inl ⟨by rfl, ?_⟩) (by assumption) ?_; rotate_left; focus (intro W hSw; (try dsimp only at hSw); go_simp; (first | done | with_reducible rfl))
      (try simp only [List.getElem_toArray, List.getElem_cons_succ, List.getElem_cons_zero, Act.put, List.setIfInBounds_toArray, List.set_cons_zero, List.set_cons_succ])
      refine wpAnyH_take (i := 8) (oi := _) (v := ?_) rfl (by kernel_rfl) (by kernel_rfl) (by kernel_rfl) (fun _ _ _ h => h) (Or.inl ⟨by rfl, ?_⟩) (by assumption) ?_; rotate_left; focus (intro W hSw; (try dsimp only at hSw); go_simp; (first | done | with_reducible rfl))
      (try simp only [List.getElem_toArray, List.getElem_cons_succ, List.getElem_cons_zero, Act.put, List.setIfInBounds_toArray, List.set_cons_zero, List.set_cons_succ])
      refine wpAnyH_ready (rs := [0]) (by kernel_rfl) (by simp) ?_
      refine AllReadyH.cons (o := _) rfl (fun K hK => ?_) AllReadyH.nil
      go_simp
      have HG0 := Lib.hid (A3.G3.start w2 58 2)
      (try simp only [Act.put, List.setIfInBounds_toArray, List.set_cons_zero, List.set_cons_succ])
      refine hK.out _ _ trivial (fun _ => ?_)
      clear hK K hHeld
      refine wpAnyH_ready (rs := [4]) (by kernel_rfl) (by simp) ?_
      refine AllReadyH.cons (o := _) rfl (fun K hK => ?_) AllReadyH.nil
      rw [if_pos (by rfl)]
      refine HG0.out.wp (.tmp 26) (.tmp 29) 40 rfl Try.underlying40 t0 hi0 (.agg #[.int .i64 no.co, .int .i64 no.ce]) hz0 16 hz1 hz2 rfl (by decide) (by rfl) (⟨b1, off, none⟩) (k) (_) (cells (cs.take k)) (by (try simp only [Act.eval, Act.put]); rfl) (hKl) (HTk.out _ HG0.out.b) (cells_one _) (by unfold maxLen; omega) (by omega) ?_
      intro v3 w3 hg hgr
      have HG3 := Lib.hid hg
      have HGR3 := Lib.hid hgr
      clear hg hgr
      (try simp only [Act.put, List.setIfInBounds_toArray, List.set_cons_zero, List.set_cons_succ])
      refine hK.out _ _ trivial (fun _ => ?_)
      clear hK K
      refine wpAnyH_ready (rs := [9]) (by kernel_rfl) (by simp) ?_
      refine AllReadyH.cons (o := _) rfl (fun K hK => ?_) AllReadyH.nil
      rw [if_pos (by rfl)]
      refine HG3.out.wp (.tmp 30) (.tmp 34) 40 rfl Try.underlying40 t0 hi0 (.agg #[.int .i64 no.co, .int .i64 no.ce]) hz0 16 hz1 hz2 rfl (by decide) (by rfl) (⟨b1, off + q * 2, none⟩) (n - q) (_) (cells (cs.drop q)) (by (try simp only [Act.eval, Act.put]); rfl) (hTl) (HDr.out _ HG3.out.b) (cells_one _) (by unfold maxLen; omega) (by omega) ?_
      intro v5 w5 hg hgr
      have HG5 := Lib.hid hg
      have HGR5 := Lib.hid hgr
      clear hg hgr
      (try simp only [Act.put, List.setIfInBounds_toArray, List.set_cons_zero, List.set_cons_succ])
      refine hK.out _ _ trivial (fun _ => ?_)
      clear hK K
      refine wpAnyH_take (i := 10) (oi := _) (v := ?_) rfl (by kernel_rfl) (by kernel_rfl) (by kernel_rfl) (fun _ _ _ h => h) (Or.inl ⟨by rfl, ?_⟩) (by assumption) ?_; rotate_left; focus (intro W hSw; (try dsimp only at hSw); go_simp; (first | done | with_reducible rfl))
      (try simp only [List.getElem_toArray, List.getElem_cons_succ, List.getElem_cons_zero, Act.put, List.setIfInBounds_toArray, List.set_cons_zero, List.set_cons_succ])
      refine wpAnyH_done (by kernel_rfl) ?_ _
      refine NoPanic.normal ?_
      (try simp only [List.getElem_toArray, List.getElem_cons_succ, List.getElem_cons_zero, Act.put, List.setIfInBounds_toArray, List.set_cons_zero, List.set_cons_succ])
      go_wp2
      go_meet
      have hO5 : Own w5 w2.heap.size v5 (rsT cs k) := by
        have h := HG5.out
        rw [Nat.zero_add, List.nil_append] at h
        unfold rsT
        rw [HQ.out]
        exact own_two h (Nat.le_refl _) HKt.out HMt.out
      obtain ⟨a5, cp5, hv5, hr5, -⟩ := hO5.slice
      subst hv5
      have hle := hO5.le
      rw [hrl.out] at hle ⊢
      exact ⟨_, _, rfl, hle, hr5, HB2.out.trans (HG5.out.b.mono HB2.out.size), HK2.out.later HG5.out.b⟩
  case rest =>
  obtain ⟨a3, cp3, rfl, hcp3, hr3, hB3, hK3⟩ := hcut
  obtain ⟨r, hr⟩ : ∃ r, n - 1 = r := ⟨_, rfl⟩
  have HRl := Lib.hid (show (rsT cs k).length = r from by rw [← hr]; exact rs_len HN.out hkl)
  rw [hr] at hcp3
  try rw [hr]
  have hrn : r ≤ 10 := by omega
  have HR3 := Lib.hid hr3
  have HB3 := Lib.hid hB3
  have HK3 := Lib.hid hK3
  have hk2l := pl_le (rsT cs k) y.co
  have HP2 := Lib.hid (show Plc (rsT cs k) y.co (pl (rsT cs k) y.co) from plc_pl (rs_asc hA.out (by rw [HN.out]; exact hkl)) y.co)
  obtain ⟨k2, hk2⟩ : ∃ k2, pl (rsT cs k) y.co = k2 := ⟨_, rfl⟩
  rw [hk2] at HP2 hk2l
  rw [HRl.out] at hk2l
  have HK2e := Lib.hid hk2
  clear hr3 hB3 hK3 hr hk2 HB2 HK2 HDr HTk hTl hKl
  go_wp2_with fail
  go_loopg [12] k2 (fun gk s wr => ∃ j : Nat, j ≤ k2 ∧ gk = k2 - j ∧ s = .int .i64 j ∧ wr = wc)
  case atStart => exact ⟨0, Nat.zero_le _, rfl, rfl, rfl⟩
  case round =>
    obtain ⟨j, hj, hgk, rfl, rfl⟩ := hrel
    by_cases hlt : j < k2
    · obtain ⟨b3, off3, rfl, c0, -⟩ := HR3.out.cells (i := j) (by rw [HRl.out]; omega)
      obtain ⟨zz, hzz⟩ : ∃ zz, (at_ (rsT cs k) j).co = zz := ⟨_, rfl⟩
      have hzx : zz < y.co := by rw [← hzz]; exact HP2.out.2.1 j hlt
      rw [hzz] at c0
      have d1 : decide (zz < y.co) = true := decide_eq_true hzx
      have hjn : j < r := by omega
      have hjn2 : (j : Int) < (r : Int) := by omega
      have hj0 : (0 : Int) ≤ (j : Int) := by omega
      clear hzz
      go_wp2
      go_roundg (k2 - (j + 1))
      case measure => omega
      case rel => exact ⟨j + 1, by omega, rfl, by go_num, rfl⟩
    · obtain rfl : k2 = j := by omega
      clear hlt hj hgk
      have j1 := HF.out _ HB3.out
      have HS8 := Lib.hid (fun W' (hW : Below wr.heap.size wr W') => HF.out W' (HB3.out.trans (hW.mono HB3.out.size)))
      have hTl : (cells ((rsT cs k).take k2)).length = k2 * 2 := by rw [cells_len, List.length_take, HRl.out, Nat.min_eq_left hk2l]
      have hDl : (cells ((rsT cs k).drop k2)).length = (r - k2) * 2 := by rw [cells_len, List.length_drop, HRl.out]
      have hk20 : (0 : Int) ≤ (k2 : Int) := by omega
      have hk21 : (k2 : Int) ≤ (r : Int) := by omega
      have hk2c : k2 ≤ cp3 := by omega
      have hk2c2 : (k2 : Int) ≤ (cp3 : Int) := by omega
      have hrc2 : (r : Int) ≤ (cp3 : Int) := by omega
      by_cases hlt : k2 < r
      · obtain ⟨b3, off3, rfl, c0, -⟩ := HR3.out.cells (i := k2) (by rw [HRl.out]; exact hlt)
        obtain ⟨zz, hzz⟩ : ∃ zz, (at_ (rsT cs k) k2).co = zz := ⟨_, rfl⟩
        have hzx : ¬ zz < y.co := by rw [← hzz]; exact Int.not_lt.2 (HP2.out.2.2 k2 (Nat.le_refl _) (by rw [HRl.out]; exact hlt))
        rw [hzz] at c0
        have d1 : decide (zz < y.co) = false := decide_eq_false hzx
        have hk2r : (k2 : Int) < (r : Int) := by omega
        clear hzz
        have HTk := Lib.hid (fun W' (hW : Below wr.heap.size wr W') => ((HR3.out.take k2).later hW).news)
        have HDr := Lib.hid (fun W' (hW : Below wr.heap.size wr W') => ((Row.drop HR3.out k2).later hW).news)
        go_upto_region 8 with (fail)
        clear c0
        go_cut [13] from 51 to 69 (fun s wx => Own wx w.heap.size s (insR (rsT cs k) y) ∧ Below w.heap.size w wx ∧ Blk wx w.heap.size 26 #[.int .i64 m.W, .int .i64 m.H, .slice a m.R.length ca, .slice b m.C.length cb])
        case first =>
          refine wp_region_noPanic ?_
          refine wp_region_held_drew (S := (fun Wx : World => Wx.cell? ⟨b1, off + k * 2 + 1, none⟩ = some (.int .i64 y.ce))) (by kernel_rfl) j1 (fun hHeld => ?_)
          have hne : ¬ (cp3 = k2) := by omega
          refine wpAnyH_take (i := 1) (oi := _) (v := ?_) rfl (by kernel_rfl) (by kernel_rfl) (by kernel_rfl) (fun _ _ _ h => h) (Or.inl ⟨by rfl, ?_⟩) (by assumption) ?_; rotate_left; focus (intro W hSw; (try dsimp only at hSw); go_simp; (first | done | with_reducible rfl))
          (try simp only [List.getElem_toArray, List.getElem_cons_succ, List.getElem_cons_zero, Act.put, List.setIfInBounds_toArray, List.set_cons_zero, List.set_cons_succ])
          refine wpAnyH_take (i := 2) (oi := _) (v := ?_) rfl (by kernel_rfl) (by kernel_rfl) (by kernel_rfl) (fun _ _ _ h => h) (Or.inl ⟨by rfl, ?_⟩) (by assumption) ?_; rotate_left; focus (intro W hSw; (try dsimp only at hSw); go_simp; (first | done | with_reducible rfl))
          (try simp only [List.getElem_toArray, List.getElem_cons_succ, List.getElem_cons_zero, Act.put, List.setIfInBounds_toArray, List.set_cons_zero, List.set_cons_succ])
          refine wpAnyH_take (i := 3) (oi := _) (v := ?_) rfl (by kernel_rfl) (by kernel_rfl) (by kernel_rfl) (fun _ _ _ h => h) (Or.inl ⟨by rfl, ?_⟩) (by assumption) ?_; rotate_left; focus (intro W hSw; (try dsimp only at hSw); go_simp; (first | done | with_reducible rfl))
          (try simp only [List.getElem_toArray, List.getElem_cons_succ, List.getElem_cons_zero, Act.put, List.setIfInBounds_toArray, List.set_cons_zero, List.set_cons_succ])
          refine wpAnyH_take (i := 5) (oi := _) (v := ?_) rfl (by kernel_rfl) (by kernel_rfl) (by kernel_rfl) (fun _ _ _ h => h) (Or.inl ⟨by rfl, ?_⟩) (by assumption) ?_; rotate_left; focus (intro W hSw; (try dsimp only at hSw); go_simp; (first | done | with_reducible rfl))
          (try simp only [List.getElem_toArray, List.getElem_cons_succ, List.getElem_cons_zero, Act.put, List.setIfInBounds_toArray, List.set_cons_zero, List.set_cons_succ])
          refine wpAnyH_take (i := 6) (oi := _) (v := ?_) rfl (by kernel_rfl) (by kernel_rfl) (by kernel_rfl) (fun _ _ _ h => h) (Or.inl ⟨by rfl, ?_⟩) (by assumption) ?_; rotate_left; focus (intro W hSw; (try dsimp only at hSw); go_simp; (first | done | with_reducible rfl))
          (try simp only [List.getElem_toArray, List.getElem_cons_succ, List.getElem_cons_zero, Act.put, List.setIfInBounds_toArray, List.set_cons_zero, List.set_cons_succ])
          refine wpAnyH_take (i := 7) (oi := _) (v := ?_) rfl (by kernel_rfl) (by kernel_rfl) (by kernel_rfl) (fun _ _ _ h => h) (Or.inl ⟨by rfl, ?_⟩) (by assumption) ?_; rotate_left; focus (intro W hSw; (try dsimp only at hSw); go_simp; (first | done | with_reducible rfl))
          (try simp only [List.getElem_toArray, List.getElem_cons_succ, List.getElem_cons_zero, Act.put, List.setIfInBounds_toArray, List.set_cons_zero, List.set_cons_succ])
          refine wpAnyH_take (i := 8) (oi := _) (v := ?_) rfl (by kernel_rfl) (by kernel_rfl) (by kernel_rfl) (fun _ _ _ h => h) (Or.inl ⟨by rfl, ?_⟩) (by assumption) ?_; rotate_left; focus (intro W hSw; (try dsimp only at hSw); go_simp; (first | done | with_reducible rfl))
          (try simp only [List.getElem_toArray, List.getElem_cons_succ, List.getElem_cons_zero, Act.put, List.setIfInBounds_toArray, List.set_cons_zero, List.set_cons_succ])
          refine wpAnyH_take (i := 9) (oi := _) (v := ?_) rfl (by kernel_rfl) (by kernel_rfl) (by kernel_rfl) (fun _ _ _ h => h) (Or.inl ⟨by rfl, ?_⟩) (by assumption) ?_; rotate_left; focus (intro W hSw; (try dsimp only at hSw); go_simp; (first | done | with_reducible rfl))
          (try simp only [List.getElem_toArray, List.getElem_cons_succ, List.getElem_cons_zero, Act.put, List.setIfInBounds_toArray, List.set_cons_zero, List.set_cons_succ])
          refine wpAnyH_take (i := 10) (oi := _) (v := ?_) rfl (by kernel_rfl) (by kernel_rfl) (by kernel_rfl) (fun _ _ _ h => h) (Or.inl ⟨by rfl, ?_⟩) (by assumption) ?_; rotate_left; focus (intro W hSw; (try dsimp only at hSw); go_simp; (first | done | with_reducible rfl))
          (try simp only [List.getElem_toArray, List.getElem_cons_succ, List.getElem_cons_zero, Act.put, List.setIfInBounds_toArray, List.set_cons_zero, List.set_cons_succ])
          refine wpAnyH_take (i := 11) (oi := _) (v := ?_) rfl (by kernel_rfl) (by kernel_rfl) (by kernel_rfl) (fun _ _ _ h => h) (Or.inl ⟨by rfl, ?_⟩) (by assumption) ?_; rotate_left; focus (intro W hSw; (try dsimp only at hSw); go_simp; (first | done | with_reducible rfl))
          (try simp only [List.getElem_toArray, List.getElem_cons_succ, List.getElem_cons_zero, Act.put, List.setIfInBounds_toArray, List.set_cons_zero, List.set_cons_succ])
          refine wpAnyH_take (i := 14) (oi := _) (v := ?_) rfl (by kernel_rfl) (by kernel_rfl) (by kernel_rfl) (fun _ _ _ h => h) (Or.inl ⟨by rfl, ?_⟩) (by assumption) ?_; rotate_left; focus (intro W hSw; (try dsimp only at hSw); go_simp; (first | done | with_reducible rfl))
          (try simp only [List.getElem_toArray, List.getElem_cons_succ, List.getElem_cons_zero, Act.put, List.setIfInBounds_toArray, List.set_cons_zero, List.set_cons_succ])
          refine wpAnyH_take (i := 15) (oi := _) (v := ?_) rfl (by kernel_rfl) (by kernel_rfl) (by kernel_rfl) (fun _ _ _ h => h) (Or.inl ⟨by rfl, ?_⟩) (by assumption) ?_; rotate_left; focus (intro W hSw; (try dsimp only at hSw); go_simp; (first | done | with_reducible rfl))
          (try simp only [List.getElem_toArray, List.getElem_cons_succ, List.getElem_cons_zero, Act.put, List.setIfInBounds_toArray, List.set_cons_zero, List.set_cons_succ])
          refine wpAnyH_take (i := 16) (oi := _) (v := ?_) rfl (by kernel_rfl) (by kernel_rfl) (by kernel_rfl) (fun _ _ _ h => h) (Or.inl ⟨by rfl, ?_⟩) (by assumption) ?_; rotate_left; focus (intro W hSw; (try dsimp only at hSw); go_simp; (first | done | with_reducible rfl))
          (try simp only [List.getElem_toArray, List.getElem_cons_succ, List.getElem_cons_zero, Act.put, List.setIfInBounds_toArray, List.set_cons_zero, List.set_cons_succ])
          refine wpAnyH_ready (rs := [0, 12]) (by kernel_rfl) (by simp) ?_
          refine AllReadyH.cons (o := _) rfl (fun K hK => ?_) (AllReadyH.cons (o := _) rfl (fun K hK => ?_) (AllReadyH.nil))
          · go_simp
            have HG0 := Lib.hid (A3.G3.start wr 58 2)
            (try simp only [Act.put, List.setIfInBounds_toArray, List.set_cons_zero, List.set_cons_succ])
            refine hK.out _ _ (HS8.out _ (HG0.out.b)) (fun _ => ?_)
            clear hK K hHeld
            refine wpAnyH_ready (rs := [4, 12]) (by kernel_rfl) (by simp) ?_
            refine AllReadyH.cons (o := _) rfl (fun K hK => ?_) (AllReadyH.cons (o := _) rfl (fun K hK => ?_) (AllReadyH.nil))
            · skip
              rw [if_pos (by rfl)]
              refine HG0.out.wp (.tmp 51) (.tmp 54) 40 rfl Try.underlying40 t0 hi0 (.agg #[.int .i64 no.co, .int .i64 no.ce]) hz0 16 hz1 hz2 rfl (by decide) (by rfl) (⟨b3, off3, none⟩) (k2) (_) (cells ((rsT cs k).take k2)) (by (try simp only [Act.eval, Act.put]); rfl) (hTl) (HTk.out _ HG0.out.b) (cells_one _) (by unfold maxLen; omega) (by omega) ?_
              intro v1 w1 hg hgr
              have HG1 := Lib.hid hg
              have HR1 := Lib.hid hgr
              clear hg hgr
              (try simp only [Act.put, List.setIfInBounds_toArray, List.set_cons_zero, List.set_cons_succ])
              refine hK.out _ _ (HS8.out _ (HG1.out.b)) (fun _ => ?_)
              clear hK K
              refine wpAnyH_ready (rs := [12]) (by kernel_rfl) (by simp) ?_
              refine AllReadyH.cons (o := _) rfl (fun K hK => ?_) (AllReadyH.nil)
              go_simp
              have HX := Lib.hid (Blk.new w1 58 (cells [y]).toArray)
              have HGa := Lib.hid (HG1.out.alloc (.cells (cells [y]).toArray 58))
              (try simp only [Act.put, List.setIfInBounds_toArray, List.set_cons_zero, List.set_cons_succ])
              refine hK.out _ _ (HS8.out _ (HGa.out.b)) (fun _ => ?_)
              clear hK K
              refine wpAnyH_ready (rs := [13]) (by kernel_rfl) (by simp) ?_
              refine AllReadyH.cons (o := _) rfl (fun K hK => ?_) (AllReadyH.nil)
              rw [if_pos (by rfl)]
              refine HGa.out.wp (.tmp 55) (.tmp 63) 40 rfl Try.underlying40 t0 hi0 (.agg #[.int .i64 no.co, .int .i64 no.ce]) hz0 16 hz1 hz2 rfl (by decide) (by rfl) (⟨_, 0, none⟩) (1) (1) (cells [y]) (by (try simp only [Act.eval, Act.put]); rfl) (rfl) (A3.blk_news HX.out) (cells_one [y]) (by unfold maxLen; omega) (by omega) ?_
              intro v2 w2 hg hgr
              have HG2 := Lib.hid hg
              have HR2 := Lib.hid hgr
              clear hg hgr
              (try simp only [Act.put, List.setIfInBounds_toArray, List.set_cons_zero, List.set_cons_succ])
              refine hK.out _ _ (HS8.out _ (HG2.out.b)) (fun _ => ?_)
              clear hK K
              refine wpAnyH_ready (rs := [17]) (by kernel_rfl) (by simp) ?_
              refine AllReadyH.cons (o := _) rfl (fun K hK => ?_) (AllReadyH.nil)
              rw [if_pos (by rfl)]
              refine HG2.out.wp (.tmp 64) (.tmp 67) 40 rfl Try.underlying40 t0 hi0 (.agg #[.int .i64 no.co, .int .i64 no.ce]) hz0 16 hz1 hz2 rfl (by decide) (by rfl) (⟨b3, off3 + k2 * 2, none⟩) (r - k2) (_) (cells ((rsT cs k).drop k2)) (by (try simp only [Act.eval, Act.put]); rfl) (hDl) (HDr.out _ HG2.out.b) (cells_one _) (by unfold maxLen; omega) (by omega) ?_
              intro v3 w3 hg hgr
              have HG3 := Lib.hid hg
              have HR3 := Lib.hid hgr
              clear hg hgr
              (try simp only [Act.put, List.setIfInBounds_toArray, List.set_cons_zero, List.set_cons_succ])
              refine hK.out _ _ (HS8.out _ (HG3.out.b)) (fun _ => ?_)
              clear hK K
              refine wpAnyH_take (i := 18) (oi := _) (v := ?_) rfl (by kernel_rfl) (by kernel_rfl) (by kernel_rfl) (fun _ _ _ h => h) (Or.inl ⟨by rfl, ?_⟩) (by assumption) ?_; rotate_left; focus (intro W hSw; (try dsimp only at hSw); go_simp; (first | done | with_reducible rfl))
              (try simp only [List.getElem_toArray, List.getElem_cons_succ, List.getElem_cons_zero, Act.put, List.setIfInBounds_toArray, List.set_cons_zero, List.set_cons_succ])
              refine wpAnyH_done (by kernel_rfl) ?_ _
              refine NoPanic.normal ?_
              (try simp only [List.getElem_toArray, List.getElem_cons_succ, List.getElem_cons_zero, Act.put, List.setIfInBounds_toArray, List.set_cons_zero, List.set_cons_succ])
              go_wp2
              go_meet
              exact ⟨ins_some HG3.out HB3.out.size HRl.out hk2l (by omega) HK2e.out, HB3.out.trans (HG3.out.b.mono HB3.out.size), HK3.out.later HG3.out.b⟩
            · go_simp
              have HX := Lib.hid (show Blk ((wr.drew.alloc (.cells #[] 58)).alloc (.cells (cells [y]).toArray 58)) (wr.heap.size + 1) 58 (cells [y]).toArray from Blk.at_ (by simp))
              have HGa := Lib.hid (HG0.out.alloc (.cells (cells [y]).toArray 58))
              (try simp only [Act.put, List.setIfInBounds_toArray, List.set_cons_zero, List.set_cons_succ])
              refine hK.out _ _ (HS8.out _ (HGa.out.b)) (fun _ => ?_)
              clear hK K
              refine wpAnyH_ready (rs := [4]) (by kernel_rfl) (by simp) ?_
              refine AllReadyH.cons (o := _) rfl (fun K hK => ?_) (AllReadyH.nil)
              rw [if_pos (by rfl)]
              refine HGa.out.wp (.tmp 51) (.tmp 54) 40 rfl Try.underlying40 t0 hi0 (.agg #[.int .i64 no.co, .int .i64 no.ce]) hz0 16 hz1 hz2 rfl (by decide) (by rfl) (⟨b3, off3, none⟩) (k2) (_) (cells ((rsT cs k).take k2)) (by (try simp only [Act.eval, Act.put]); rfl) (hTl) (HTk.out _ HGa.out.b) (cells_one _) (by unfold maxLen; omega) (by omega) ?_
              intro v1 w1 hg hgr
              have HG1 := Lib.hid hg
              have HR1 := Lib.hid hgr
              clear hg hgr
              have HX1 := Lib.hid (A3.blk_grown HX.out HR1.out (fun e => by simp [Value.ownBlock] at e))
              (try simp only [Act.put, List.setIfInBounds_toArray, List.set_cons_zero, List.set_cons_succ])
              refine hK.out _ _ (HS8.out _ (HG1.out.b)) (fun _ => ?_)
              clear hK K
              refine wpAnyH_ready (rs := [13]) (by kernel_rfl) (by simp) ?_
              refine AllReadyH.cons (o := _) rfl (fun K hK => ?_) (AllReadyH.nil)
              rw [if_pos (by rfl)]
              refine HG1.out.wp (.tmp 55) (.tmp 63) 40 rfl Try.underlying40 t0 hi0 (.agg #[.int .i64 no.co, .int .i64 no.ce]) hz0 16 hz1 hz2 rfl (by decide) (by rfl) (⟨_, 0, none⟩) (1) (1) (cells [y]) (by (try simp only [Act.eval, Act.put]); rfl) (rfl) (A3.blk_news HX1.out) (cells_one [y]) (by unfold maxLen; omega) (by omega) ?_
              intro v2 w2 hg hgr
              have HG2 := Lib.hid hg
              have HR2 := Lib.hid hgr
              clear hg hgr
              (try simp only [Act.put, List.setIfInBounds_toArray, List.set_cons_zero, List.set_cons_succ])
              refine hK.out _ _ (HS8.out _ (HG2.out.b)) (fun _ => ?_)
              clear hK K
              refine wpAnyH_ready (rs := [17]) (by kernel_rfl) (by simp) ?_
              refine AllReadyH.cons (o := _) rfl (fun K hK => ?_) (AllReadyH.nil)
              rw [if_pos (by rfl)]
              refine HG2.out.wp (.tmp 64) (.tmp 67) 40 rfl Try.underlying40 t0 hi0 (.agg #[.int .i64 no.co, .int .i64 no.ce]) hz0 16 hz1 hz2 rfl (by decide) (by rfl) (⟨b3, off3 + k2 * 2, none⟩) (r - k2) (_) (cells ((rsT cs k).drop k2)) (by (try simp only [Act.eval, Act.put]); rfl) (hDl) (HDr.out _ HG2.out.b) (cells_one _) (by unfold maxLen; omega) (by omega) ?_
              intro v3 w3 hg hgr
              have HG3 := Lib.hid hg
              have HR3 := Lib.hid hgr
              clear hg hgr
              (try simp only [Act.put, List.setIfInBounds_toArray, List.set_cons_zero, List.set_cons_succ])
              refine hK.out _ _ (HS8.out _ (HG3.out.b)) (fun _ => ?_)
              clear hK K
              refine wpAnyH_take (i := 18) (oi := _) (v := ?_) rfl (by kernel_rfl) (by kernel_rfl) (by kernel_rfl) (fun _ _ _ h => h) (Or.inl ⟨by rfl, ?_⟩) (by assumption) ?_; rotate_left; focus (intro W hSw; (try dsimp only at hSw); go_simp; (first | done | with_reducible rfl))
              (try simp only [List.getElem_toArray, List.getElem_cons_succ, List.getElem_cons_zero, Act.put, List.setIfInBounds_toArray, List.set_cons_zero, List.set_cons_succ])
              refine wpAnyH_done (by kernel_rfl) ?_ _
              refine NoPanic.normal ?_
              (try simp only [List.getElem_toArray, List.getElem_cons_succ, List.getElem_cons_zero, Act.put, List.setIfInBounds_toArray, List.set_cons_zero, List.set_cons_succ])
              go_wp2
              go_meet
              exact ⟨ins_some HG3.out HB3.out.size HRl.out hk2l (by omega) HK2e.out, HB3.out.trans (HG3.out.b.mono HB3.out.size), HK3.out.later HG3.out.b⟩
          · go_simp
            have HX := Lib.hid (Blk.new wr.drew 58 (cells [y]).toArray)
            have HBx := Lib.hid ((Below.refl wr.heap.size wr).drew.alloc (Nat.le_refl _) (.cells (cells [y]).toArray 58))
            (try simp only [Act.put, List.setIfInBounds_toArray, List.set_cons_zero, List.set_cons_succ])
            refine hK.out _ _ (HS8.out _ (HBx.out)) (fun _ => ?_)
            clear hK K hHeld
            refine wpAnyH_ready (rs := [0]) (by kernel_rfl) (by simp) ?_
            refine AllReadyH.cons (o := _) rfl (fun K hK => ?_) (AllReadyH.nil)
            go_simp
            have HG0 := Lib.hid (show A3.G3 wr 58 2 ((wr.drew.alloc (.cells (cells [y]).toArray 58)).alloc (.cells #[] 58)) (.slice (some ⟨wr.heap.size + 1, 0, none⟩) 0 0) 0 [] from A3.G3.after HBx.out (by simp))
            have HXo := Lib.hid (HX.out.alloc (.cells #[] 58))
            (try simp only [Act.put, List.setIfInBounds_toArray, List.set_cons_zero, List.set_cons_succ])
            refine hK.out _ _ (HS8.out _ (HG0.out.b)) (fun _ => ?_)
            clear hK K
            refine wpAnyH_ready (rs := [4]) (by kernel_rfl) (by simp) ?_
            refine AllReadyH.cons (o := _) rfl (fun K hK => ?_) (AllReadyH.nil)
            rw [if_pos (by rfl)]
            refine HG0.out.wp (.tmp 51) (.tmp 54) 40 rfl Try.underlying40 t0 hi0 (.agg #[.int .i64 no.co, .int .i64 no.ce]) hz0 16 hz1 hz2 rfl (by decide) (by rfl) (⟨b3, off3, none⟩) (k2) (_) (cells ((rsT cs k).take k2)) (by (try simp only [Act.eval, Act.put]); rfl) (hTl) (HTk.out _ HG0.out.b) (cells_one _) (by unfold maxLen; omega) (by omega) ?_
            intro v1 w1 hg hgr
            have HG1 := Lib.hid hg
            have HR1 := Lib.hid hgr
            clear hg hgr
            have HX1 := Lib.hid (A3.blk_grown HXo.out HR1.out (fun e => by simp [Value.ownBlock] at e))
            (try simp only [Act.put, List.setIfInBounds_toArray, List.set_cons_zero, List.set_cons_succ])
            refine hK.out _ _ (HS8.out _ (HG1.out.b)) (fun _ => ?_)
            clear hK K
            refine wpAnyH_ready (rs := [13]) (by kernel_rfl) (by simp) ?_
            refine AllReadyH.cons (o := _) rfl (fun K hK => ?_) (AllReadyH.nil)
            rw [if_pos (by rfl)]
            refine HG1.out.wp (.tmp 55) (.tmp 63) 40 rfl Try.underlying40 t0 hi0 (.agg #[.int .i64 no.co, .int .i64 no.ce]) hz0 16 hz1 hz2 rfl (by decide) (by rfl) (⟨_, 0, none⟩) (1) (1) (cells [y]) (by (try simp only [Act.eval, Act.put]); rfl) (rfl) (A3.blk_news HX1.out) (cells_one [y]) (by unfold maxLen; omega) (by omega) ?_
            intro v2 w2 hg hgr
            have HG2 := Lib.hid hg
            have HR2 := Lib.hid hgr
            clear hg hgr
            (try simp only [Act.put, List.setIfInBounds_toArray, List.set_cons_zero, List.set_cons_succ])
            refine hK.out _ _ (HS8.out _ (HG2.out.b)) (fun _ => ?_)
            clear hK K
            refine wpAnyH_ready (rs := [17]) (by kernel_rfl) (by simp) ?_
            refine AllReadyH.cons (o := _) rfl (fun K hK => ?_) (AllReadyH.nil)
            rw [if_pos (by rfl)]
            refine HG2.out.wp (.tmp 64) (.tmp 67) 40 rfl Try.underlying40 t0 hi0 (.agg #[.int .i64 no.co, .int .i64 no.ce]) hz0 16 hz1 hz2 rfl (by decide) (by rfl) (⟨b3, off3 + k2 * 2, none⟩) (r - k2) (_) (cells ((rsT cs k).drop k2)) (by (try simp only [Act.eval, Act.put]); rfl) (hDl) (HDr.out _ HG2.out.b) (cells_one _) (by unfold maxLen; omega) (by omega) ?_
            intro v3 w3 hg hgr
            have HG3 := Lib.hid hg
            have HR3 := Lib.hid hgr
            clear hg hgr
            (try simp only [Act.put, List.setIfInBounds_toArray, List.set_cons_zero, List.set_cons_succ])
            refine hK.out _ _ (HS8.out _ (HG3.out.b)) (fun _ => ?_)
            clear hK K
            refine wpAnyH_take (i := 18) (oi := _) (v := ?_) rfl (by kernel_rfl) (by kernel_rfl) (by kernel_rfl) (fun _ _ _ h => h) (Or.inl ⟨by rfl, ?_⟩) (by assumption) ?_; rotate_left; focus (intro W hSw; (try dsimp only at hSw); go_simp; (first | done | with_reducible rfl))
            (try simp only [List.getElem_toArray, List.getElem_cons_succ, List.getElem_cons_zero, Act.put, List.setIfInBounds_toArray, List.set_cons_zero, List.set_cons_succ])
            refine wpAnyH_done (by kernel_rfl) ?_ _
            refine NoPanic.normal ?_
            (try simp only [List.getElem_toArray, List.getElem_cons_succ, List.getElem_cons_zero, Act.put, List.setIfInBounds_toArray, List.set_cons_zero, List.set_cons_succ])
            go_wp2
            go_meet
            exact ⟨ins_some HG3.out HB3.out.size HRl.out hk2l (by omega) HK2e.out, HB3.out.trans (HG3.out.b.mono HB3.out.size), HK3.out.later HG3.out.b⟩
        case rest =>
        obtain ⟨ho6, hB6, hK6⟩ := hcut
        have HB6 := Lib.hid hB6
        have HK6 := Lib.hid hK6
        rw [← HS.out] at ho6
        obtain ⟨a6, cp6, rfl, hr6, -⟩ := ho6.slice
        have HO6 := Lib.hid ho6
        have hln : (rcS cs x y.co).length ≤ 11 := by rw [HS.out, ins_len, HRl.out]; omega
        have c7 := Lib.hid (show Calls Try.prog 98 #[.agg #[.int .i64 m.W, .int .i64 m.H, .slice a m.R.length ca, .slice b m.C.length cb], .slice a6 (rcS cs x y.co).length cp6] wc fun e w' => e = .returned (.bool g2) ∧ Below wc.heap.size wc w' from by
          have h := spec_good m (rcS cs x y.co) (by omega) hR hC a b ca cb a6 cp6 wc ⟨RowAt.below HR.out.r HB6.out, RowAt.below HR.out.c HB6.out, hr6⟩
          rw [HG2.out] at h
          exact h)
        clear ho6 hB6 hK6 hr6 hln HB3 HK3 HR3
        obtain ⟨p0, p1, p2, p3, -⟩ := MapS.Blk.four HK6.out
        go_wp2_with fail
        refine c7.out.mono ?_
        rintro e w7 ⟨rfl, hb⟩
        have HB7 := Lib.hid (HB6.out.trans (hb.mono HB6.out.size))
        have HP7 := Lib.hid (HO6.out.below hb)
        have hsz7 := HB7.out.size
        clear hb
        cases g2 with
        | false =>
          have h1 : ok = false := HO2.out
          obtain rfl := HBAD.out h1
          subst h1
          go_wp2
          go_ret2
          exact ⟨_, rfl, own_none w7 w.heap.size hsz7, HB7.out.alloc hsz7 _⟩
        | true =>
          have h1 : ok = true := HO2.out
          have h2 : rcS cs x y.co = z := by rw [← HZ.out]; unfold rcL; rw [HO.out, h1]; rfl
          rw [h2] at HP7 ⊢
          subst h1
          clear h2
          go_wp2
          go_ret2
          exact ⟨_, rfl, HP7.out, HB7.out⟩
      · obtain rfl : k2 = r := by omega
        clear hlt
        cases a3 with
        | none =>
          have hr0 : k2 = 0 := by
            rcases HR3.out with h0 | ⟨b3, off3, e, _⟩
            · rw [HRl.out] at h0; exact h0
            · cases e
          subst hr0
          go_upto_region 8 with (fail)
          go_cut [13] from 51 to 69 (fun s wx => Own wx w.heap.size s (insR (rsT cs k) y) ∧ Below w.heap.size w wx ∧ Blk wx w.heap.size 26 #[.int .i64 m.W, .int .i64 m.H, .slice a m.R.length ca, .slice b m.C.length cb])
          case first =>
            refine wp_region_noPanic ?_
            refine wp_region_held_drew (S := (fun Wx : World => Wx.cell? ⟨b1, off + k * 2 + 1, none⟩ = some (.int .i64 y.ce))) (by kernel_rfl) j1 (fun hHeld => ?_)
            refine wpAnyH_take (i := 1) (oi := _) (v := ?_) rfl (by kernel_rfl) (by kernel_rfl) (by kernel_rfl) (fun _ _ _ h => h) (Or.inl ⟨by rfl, ?_⟩) (by assumption) ?_; rotate_left; focus (intro W hSw; (try dsimp only at hSw); go_simp; (first | done | with_reducible rfl))
            (try simp only [List.getElem_toArray, List.getElem_cons_succ, List.getElem_cons_zero, Act.put, List.setIfInBounds_toArray, List.set_cons_zero, List.set_cons_succ])
            refine wpAnyH_take (i := 2) (oi := _) (v := ?_) rfl (by kernel_rfl) (by kernel_rfl) (by kernel_rfl) (fun _ _ _ h => h) (Or.inl ⟨by rfl, ?_⟩) (by assumption) ?_; rotate_left; focus (intro W hSw; (try dsimp only at hSw); go_simp; (first | done | with_reducible rfl))
            (try simp only [List.getElem_toArray, List.getElem_cons_succ, List.getElem_cons_zero, Act.put, List.setIfInBounds_toArray, List.set_cons_zero, List.set_cons_succ])
            refine wpAnyH_take (i := 3) (oi := _) (v := ?_) rfl (by kernel_rfl) (by kernel_rfl) (by kernel_rfl) (fun _ _ _ h => h) (Or.inl ⟨by rfl, ?_⟩) (by assumption) ?_; rotate_left; focus (intro W hSw; (try dsimp only at hSw); go_simp; (first | done | with_reducible rfl))
            (try simp only [List.getElem_toArray, List.getElem_cons_succ, List.getElem_cons_zero, Act.put, List.setIfInBounds_toArray, List.set_cons_zero, List.set_cons_succ])
            refine wpAnyH_take (i := 5) (oi := _) (v := ?_) rfl (by kernel_rfl) (by kernel_rfl) (by kernel_rfl) (fun _ _ _ h => h) (Or.inl ⟨by rfl, ?_⟩) (by assumption) ?_; rotate_left; focus (intro W hSw; (try dsimp only at hSw); go_simp; (first | done | with_reducible rfl))
            (try simp only [List.getElem_toArray, List.getElem_cons_succ, List.getElem_cons_zero, Act.put, List.setIfInBounds_toArray, List.set_cons_zero, List.set_cons_succ])
            refine wpAnyH_take (i := 6) (oi := _) (v := ?_) rfl (by kernel_rfl) (by kernel_rfl) (by kernel_rfl) (fun _ _ _ h => h) (Or.inl ⟨by rfl, ?_⟩) (by assumption) ?_; rotate_left; focus (intro W hSw; (try dsimp only at hSw); go_simp; (first | done | with_reducible rfl))
            (try simp only [List.getElem_toArray, List.getElem_cons_succ, List.getElem_cons_zero, Act.put, List.setIfInBounds_toArray, List.set_cons_zero, List.set_cons_succ])
            refine wpAnyH_take (i := 7) (oi := _) (v := ?_) rfl (by kernel_rfl) (by kernel_rfl) (by kernel_rfl) (fun _ _ _ h => h) (Or.inl ⟨by rfl, ?_⟩) (by assumption) ?_; rotate_left; focus (intro W hSw; (try dsimp only at hSw); go_simp; (first | done | with_reducible rfl))
            (try simp only [List.getElem_toArray, List.getElem_cons_succ, List.getElem_cons_zero, Act.put, List.setIfInBounds_toArray, List.set_cons_zero, List.set_cons_succ])
            refine wpAnyH_take (i := 8) (oi := _) (v := ?_) rfl (by kernel_rfl) (by kernel_rfl) (by kernel_rfl) (fun _ _ _ h => h) (Or.inl ⟨by rfl, ?_⟩) (by assumption) ?_; rotate_left; focus (intro W hSw; (try dsimp only at hSw); go_simp; (first | done | with_reducible rfl))
            (try simp only [List.getElem_toArray, List.getElem_cons_succ, List.getElem_cons_zero, Act.put, List.setIfInBounds_toArray, List.set_cons_zero, List.set_cons_succ])
            refine wpAnyH_take (i := 9) (oi := _) (v := ?_) rfl (by kernel_rfl) (by kernel_rfl) (by kernel_rfl) (fun _ _ _ h => h) (Or.inl ⟨by rfl, ?_⟩) (by assumption) ?_; rotate_left; focus (intro W hSw; (try dsimp only at hSw); go_simp; (first | done | with_reducible rfl))
            (try simp only [List.getElem_toArray, List.getElem_cons_succ, List.getElem_cons_zero, Act.put, List.setIfInBounds_toArray, List.set_cons_zero, List.set_cons_succ])
            refine wpAnyH_take (i := 10) (oi := _) (v := ?_) rfl (by kernel_rfl) (by kernel_rfl) (by kernel_rfl) (fun _ _ _ h => h) (Or.inl ⟨by rfl, ?_⟩) (by assumption) ?_; rotate_left; focus (intro W hSw; (try dsimp only at hSw); go_simp; (first | done | with_reducible rfl))
            (try simp only [List.getElem_toArray, List.getElem_cons_succ, List.getElem_cons_zero, Act.put, List.setIfInBounds_toArray, List.set_cons_zero, List.set_cons_succ])
            refine wpAnyH_take (i := 11) (oi := _) (v := ?_) rfl (by kernel_rfl) (by kernel_rfl) (by kernel_rfl) (fun _ _ _ h => h) (Or.inl ⟨by rfl, ?_⟩) (by assumption) ?_; rotate_left; focus (intro W hSw; (try dsimp only at hSw); go_simp; (first | done | with_reducible rfl))
            (try simp only [List.getElem_toArray, List.getElem_cons_succ, List.getElem_cons_zero, Act.put, List.setIfInBounds_toArray, List.set_cons_zero, List.set_cons_succ])
            refine wpAnyH_take (i := 14) (oi := _) (v := ?_) rfl (by kernel_rfl) (by kernel_rfl) (by kernel_rfl) (fun _ _ _ h => h) (Or.inl ⟨by rfl, ?_⟩) (by assumption) ?_; rotate_left; focus (intro W hSw; (try dsimp only at hSw); go_simp; (first | done | with_reducible rfl))
            (try simp only [List.getElem_toArray, List.getElem_cons_succ, List.getElem_cons_zero, Act.put, List.setIfInBounds_toArray, List.set_cons_zero, List.set_cons_succ])
            refine wpAnyH_take (i := 15) (oi := _) (v := ?_) rfl (by kernel_rfl) (by kernel_rfl) (by kernel_rfl) (fun _ _ _ h => h) (Or.inl ⟨by rfl, ?_⟩) (by assumption) ?_; rotate_left; focus (intro W hSw; (try dsimp only at hSw); go_simp; (first | done | with_reducible rfl))
            (try simp only [List.getElem_toArray, List.getElem_cons_succ, List.getElem_cons_zero, Act.put, List.setIfInBounds_toArray, List.set_cons_zero, List.set_cons_succ])
            refine wpAnyH_take (i := 16) (oi := _) (v := ?_) rfl (by kernel_rfl) (by kernel_rfl) (by kernel_rfl) (fun _ _ _ h => h) (Or.inl ⟨by rfl, ?_⟩) (by assumption) ?_; rotate_left; focus (intro W hSw; (try dsimp only at hSw); go_simp; (first | done | with_reducible rfl))
            (try simp only [List.getElem_toArray, List.getElem_cons_succ, List.getElem_cons_zero, Act.put, List.setIfInBounds_toArray, List.set_cons_zero, List.set_cons_succ])
            refine wpAnyH_ready (rs := [0, 12]) (by kernel_rfl) (by simp) ?_
            refine AllReadyH.cons (o := _) rfl (fun K hK => ?_) (AllReadyH.cons (o := _) rfl (fun K hK => ?_) (AllReadyH.nil))
            · go_simp
              have HG0 := Lib.hid (A3.G3.start wr 58 2)
              (try simp only [Act.put, List.setIfInBounds_toArray, List.set_cons_zero, List.set_cons_succ])
              refine hK.out _ _ (HS8.out _ (HG0.out.b)) (fun _ => ?_)
              clear hK K hHeld
              refine wpAnyH_ready (rs := [4, 12]) (by kernel_rfl) (by simp) ?_
              refine AllReadyH.cons (o := _) rfl (fun K hK => ?_) (AllReadyH.cons (o := _) rfl (fun K hK => ?_) (AllReadyH.nil))
              · skip
                rw [if_pos (by rfl)]
                refine HG0.out.wp_none (.tmp 51) (.tmp 54) 40 rfl Try.underlying40 t0 hi0 hz1 (by rfl) _ (by rfl) ?_
                (try simp only [Act.put, List.setIfInBounds_toArray, List.set_cons_zero, List.set_cons_succ])
                refine hK.out _ _ (HS8.out _ (HG0.out.b)) (fun _ => ?_)
                clear hK K
                refine wpAnyH_ready (rs := [12]) (by kernel_rfl) (by simp) ?_
                refine AllReadyH.cons (o := _) rfl (fun K hK => ?_) (AllReadyH.nil)
                go_simp
                have HX := Lib.hid (show Blk ((wr.drew.alloc (.cells #[] 58)).alloc (.cells (cells [y]).toArray 58)) (wr.heap.size + 1) 58 (cells [y]).toArray from Blk.at_ (by simp))
                have HGa := Lib.hid (HG0.out.alloc (.cells (cells [y]).toArray 58))
                (try simp only [Act.put, List.setIfInBounds_toArray, List.set_cons_zero, List.set_cons_succ])
                refine hK.out _ _ (HS8.out _ (HGa.out.b)) (fun _ => ?_)
                clear hK K
                refine wpAnyH_ready (rs := [13]) (by kernel_rfl) (by simp) ?_
                refine AllReadyH.cons (o := _) rfl (fun K hK => ?_) (AllReadyH.nil)
                rw [if_pos (by rfl)]
                refine HGa.out.wp (.tmp 55) (.tmp 63) 40 rfl Try.underlying40 t0 hi0 (.agg #[.int .i64 no.co, .int .i64 no.ce]) hz0 16 hz1 hz2 rfl (by decide) (by rfl) (⟨_, 0, none⟩) (1) (1) (cells [y]) (by (try simp only [Act.eval, Act.put]); rfl) (rfl) (A3.blk_news HX.out) (cells_one [y]) (by unfold maxLen; omega) (by omega) ?_
                intro v2 w2 hg hgr
                have HG2 := Lib.hid hg
                have HR2 := Lib.hid hgr
                clear hg hgr
                (try simp only [Act.put, List.setIfInBounds_toArray, List.set_cons_zero, List.set_cons_succ])
                refine hK.out _ _ (HS8.out _ (HG2.out.b)) (fun _ => ?_)
                clear hK K
                refine wpAnyH_ready (rs := [17]) (by kernel_rfl) (by simp) ?_
                refine AllReadyH.cons (o := _) rfl (fun K hK => ?_) (AllReadyH.nil)
                rw [if_pos (by rfl)]
                refine HG2.out.wp_none (.tmp 64) (.tmp 67) 40 rfl Try.underlying40 t0 hi0 hz1 (by rfl) _ (by rfl) ?_
                (try simp only [Act.put, List.setIfInBounds_toArray, List.set_cons_zero, List.set_cons_succ])
                refine hK.out _ _ (HS8.out _ (HG2.out.b)) (fun _ => ?_)
                clear hK K
                refine wpAnyH_take (i := 18) (oi := _) (v := ?_) rfl (by kernel_rfl) (by kernel_rfl) (by kernel_rfl) (fun _ _ _ h => h) (Or.inl ⟨by rfl, ?_⟩) (by assumption) ?_; rotate_left; focus (intro W hSw; (try dsimp only at hSw); go_simp; (first | done | with_reducible rfl))
                (try simp only [List.getElem_toArray, List.getElem_cons_succ, List.getElem_cons_zero, Act.put, List.setIfInBounds_toArray, List.set_cons_zero, List.set_cons_succ])
                refine wpAnyH_done (by kernel_rfl) ?_ _
                refine NoPanic.normal ?_
                (try simp only [List.getElem_toArray, List.getElem_cons_succ, List.getElem_cons_zero, Act.put, List.setIfInBounds_toArray, List.set_cons_zero, List.set_cons_succ])
                go_wp2
                go_meet
                exact ⟨ins_nil HG2.out HB3.out.size HRl.out, HB3.out.trans (HG2.out.b.mono HB3.out.size), HK3.out.later HG2.out.b⟩
              · go_simp
                have HX := Lib.hid (show Blk ((wr.drew.alloc (.cells #[] 58)).alloc (.cells (cells [y]).toArray 58)) (wr.heap.size + 1) 58 (cells [y]).toArray from Blk.at_ (by simp))
                have HGa := Lib.hid (HG0.out.alloc (.cells (cells [y]).toArray 58))
                (try simp only [Act.put, List.setIfInBounds_toArray, List.set_cons_zero, List.set_cons_succ])
                refine hK.out _ _ (HS8.out _ (HGa.out.b)) (fun _ => ?_)
                clear hK K
                refine wpAnyH_ready (rs := [4]) (by kernel_rfl) (by simp) ?_
                refine AllReadyH.cons (o := _) rfl (fun K hK => ?_) (AllReadyH.nil)
                rw [if_pos (by rfl)]
                refine HGa.out.wp_none (.tmp 51) (.tmp 54) 40 rfl Try.underlying40 t0 hi0 hz1 (by rfl) _ (by rfl) ?_
                have HX1 := HX
                (try simp only [Act.put, List.setIfInBounds_toArray, List.set_cons_zero, List.set_cons_succ])
                refine hK.out _ _ (HS8.out _ (HGa.out.b)) (fun _ => ?_)
                clear hK K
                refine wpAnyH_ready (rs := [13]) (by kernel_rfl) (by simp) ?_
                refine AllReadyH.cons (o := _) rfl (fun K hK => ?_) (AllReadyH.nil)
                rw [if_pos (by rfl)]
                refine HGa.out.wp (.tmp 55) (.tmp 63) 40 rfl Try.underlying40 t0 hi0 (.agg #[.int .i64 no.co, .int .i64 no.ce]) hz0 16 hz1 hz2 rfl (by decide) (by rfl) (⟨_, 0, none⟩) (1) (1) (cells [y]) (by (try simp only [Act.eval, Act.put]); rfl) (rfl) (A3.blk_news HX1.out) (cells_one [y]) (by unfold maxLen; omega) (by omega) ?_
                intro v2 w2 hg hgr
                have HG2 := Lib.hid hg
                have HR2 := Lib.hid hgr
                clear hg hgr
                (try simp only [Act.put, List.setIfInBounds_toArray, List.set_cons_zero, List.set_cons_succ])
                refine hK.out _ _ (HS8.out _ (HG2.out.b)) (fun _ => ?_)
                clear hK K
                refine wpAnyH_ready (rs := [17]) (by kernel_rfl) (by simp) ?_
                refine AllReadyH.cons (o := _) rfl (fun K hK => ?_) (AllReadyH.nil)
                rw [if_pos (by rfl)]
                refine HG2.out.wp_none (.tmp 64) (.tmp 67) 40 rfl Try.underlying40 t0 hi0 hz1 (by rfl) _ (by rfl) ?_
                (try simp only [Act.put, List.setIfInBounds_toArray, List.set_cons_zero, List.set_cons_succ])
                refine hK.out _ _ (HS8.out _ (HG2.out.b)) (fun _ => ?_)
                clear hK K
                refine wpAnyH_take (i := 18) (oi := _) (v := ?_) rfl (by kernel_rfl) (by kernel_rfl) (by kernel_rfl) (fun _ _ _ h => h) (Or.inl ⟨by rfl, ?_⟩) (by assumption) ?_; rotate_left; focus (intro W hSw; (try dsimp only at hSw); go_simp; (first | done | with_reducible rfl))
                (try simp only [List.getElem_toArray, List.getElem_cons_succ, List.getElem_cons_zero, Act.put, List.setIfInBounds_toArray, List.set_cons_zero, List.set_cons_succ])
                refine wpAnyH_done (by kernel_rfl) ?_ _
                refine NoPanic.normal ?_
                (try simp only [List.getElem_toArray, List.getElem_cons_succ, List.getElem_cons_zero, Act.put, List.setIfInBounds_toArray, List.set_cons_zero, List.set_cons_succ])
                go_wp2
                go_meet
                exact ⟨ins_nil HG2.out HB3.out.size HRl.out, HB3.out.trans (HG2.out.b.mono HB3.out.size), HK3.out.later HG2.out.b⟩
            · go_simp
              have HX := Lib.hid (Blk.new wr.drew 58 (cells [y]).toArray)
              have HBx := Lib.hid ((Below.refl wr.heap.size wr).drew.alloc (Nat.le_refl _) (.cells (cells [y]).toArray 58))
              (try simp only [Act.put, List.setIfInBounds_toArray, List.set_cons_zero, List.set_cons_succ])
              refine hK.out _ _ (HS8.out _ (HBx.out)) (fun _ => ?_)
              clear hK K hHeld
              refine wpAnyH_ready (rs := [0]) (by kernel_rfl) (by simp) ?_
              refine AllReadyH.cons (o := _) rfl (fun K hK => ?_) (AllReadyH.nil)
              go_simp
              have HG0 := Lib.hid (show A3.G3 wr 58 2 ((wr.drew.alloc (.cells (cells [y]).toArray 58)).alloc (.cells #[] 58)) (.slice (some ⟨wr.heap.size + 1, 0, none⟩) 0 0) 0 [] from A3.G3.after HBx.out (by simp))
              have HXo := Lib.hid (HX.out.alloc (.cells #[] 58))
              (try simp only [Act.put, List.setIfInBounds_toArray, List.set_cons_zero, List.set_cons_succ])
              refine hK.out _ _ (HS8.out _ (HG0.out.b)) (fun _ => ?_)
              clear hK K
              refine wpAnyH_ready (rs := [4]) (by kernel_rfl) (by simp) ?_
              refine AllReadyH.cons (o := _) rfl (fun K hK => ?_) (AllReadyH.nil)
              rw [if_pos (by rfl)]
              refine HG0.out.wp_none (.tmp 51) (.tmp 54) 40 rfl Try.underlying40 t0 hi0 hz1 (by rfl) _ (by rfl) ?_
              have HX1 := HXo
              (try simp only [Act.put, List.setIfInBounds_toArray, List.set_cons_zero, List.set_cons_succ])
              refine hK.out _ _ (HS8.out _ (HG0.out.b)) (fun _ => ?_)
              clear hK K
              refine wpAnyH_ready (rs := [13]) (by kernel_rfl) (by simp) ?_
              refine AllReadyH.cons (o := _) rfl (fun K hK => ?_) (AllReadyH.nil)
              rw [if_pos (by rfl)]
              refine HG0.out.wp (.tmp 55) (.tmp 63) 40 rfl Try.underlying40 t0 hi0 (.agg #[.int .i64 no.co, .int .i64 no.ce]) hz0 16 hz1 hz2 rfl (by decide) (by rfl) (⟨_, 0, none⟩) (1) (1) (cells [y]) (by (try simp only [Act.eval, Act.put]); rfl) (rfl) (A3.blk_news HX1.out) (cells_one [y]) (by unfold maxLen; omega) (by omega) ?_
              intro v2 w2 hg hgr
              have HG2 := Lib.hid hg
              have HR2 := Lib.hid hgr
              clear hg hgr
              (try simp only [Act.put, List.setIfInBounds_toArray, List.set_cons_zero, List.set_cons_succ])
              refine hK.out _ _ (HS8.out _ (HG2.out.b)) (fun _ => ?_)
              clear hK K
              refine wpAnyH_ready (rs := [17]) (by kernel_rfl) (by simp) ?_
              refine AllReadyH.cons (o := _) rfl (fun K hK => ?_) (AllReadyH.nil)
              rw [if_pos (by rfl)]
              refine HG2.out.wp_none (.tmp 64) (.tmp 67) 40 rfl Try.underlying40 t0 hi0 hz1 (by rfl) _ (by rfl) ?_
              (try simp only [Act.put, List.setIfInBounds_toArray, List.set_cons_zero, List.set_cons_succ])
              refine hK.out _ _ (HS8.out _ (HG2.out.b)) (fun _ => ?_)
              clear hK K
              refine wpAnyH_take (i := 18) (oi := _) (v := ?_) rfl (by kernel_rfl) (by kernel_rfl) (by kernel_rfl) (fun _ _ _ h => h) (Or.inl ⟨by rfl, ?_⟩) (by assumption) ?_; rotate_left; focus (intro W hSw; (try dsimp only at hSw); go_simp; (first | done | with_reducible rfl))
              (try simp only [List.getElem_toArray, List.getElem_cons_succ, List.getElem_cons_zero, Act.put, List.setIfInBounds_toArray, List.set_cons_zero, List.set_cons_succ])
              refine wpAnyH_done (by kernel_rfl) ?_ _
              refine NoPanic.normal ?_
              (try simp only [List.getElem_toArray, List.getElem_cons_succ, List.getElem_cons_zero, Act.put, List.setIfInBounds_toArray, List.set_cons_zero, List.set_cons_succ])
              go_wp2
              go_meet
              exact ⟨ins_nil HG2.out HB3.out.size HRl.out, HB3.out.trans (HG2.out.b.mono HB3.out.size), HK3.out.later HG2.out.b⟩
          case rest =>
          obtain ⟨ho6, hB6, hK6⟩ := hcut
          have HB6 := Lib.hid hB6
          have HK6 := Lib.hid hK6
          rw [← HS.out] at ho6
          obtain ⟨a6, cp6, rfl, hr6, -⟩ := ho6.slice
          have HO6 := Lib.hid ho6
          have hln : (rcS cs x y.co).length ≤ 11 := by rw [HS.out, ins_len, HRl.out]; omega
          have c7 := Lib.hid (show Calls Try.prog 98 #[.agg #[.int .i64 m.W, .int .i64 m.H, .slice a m.R.length ca, .slice b m.C.length cb], .slice a6 (rcS cs x y.co).length cp6] wc fun e w' => e = .returned (.bool g2) ∧ Below wc.heap.size wc w' from by
            have h := spec_good m (rcS cs x y.co) (by omega) hR hC a b ca cb a6 cp6 wc ⟨RowAt.below HR.out.r HB6.out, RowAt.below HR.out.c HB6.out, hr6⟩
            rw [HG2.out] at h
            exact h)
          clear ho6 hB6 hK6 hr6 hln HB3 HK3 HR3
          obtain ⟨p0, p1, p2, p3, -⟩ := MapS.Blk.four HK6.out
          go_wp2_with fail
          refine c7.out.mono ?_
          rintro e w7 ⟨rfl, hb⟩
          have HB7 := Lib.hid (HB6.out.trans (hb.mono HB6.out.size))
          have HP7 := Lib.hid (HO6.out.below hb)
          have hsz7 := HB7.out.size
          clear hb
          cases g2 with
          | false =>
            have h1 : ok = false := HO2.out
            obtain rfl := HBAD.out h1
            subst h1
            go_wp2
            go_ret2
            exact ⟨_, rfl, own_none w7 w.heap.size hsz7, HB7.out.alloc hsz7 _⟩
          | true =>
            have h1 : ok = true := HO2.out
            have h2 : rcS cs x y.co = z := by rw [← HZ.out]; unfold rcL; rw [HO.out, h1]; rfl
            rw [h2] at HP7 ⊢
            subst h1
            clear h2
            go_wp2
            go_ret2
            exact ⟨_, rfl, HP7.out, HB7.out⟩
        | some adx =>
          have HTk := Lib.hid (fun W' (hW : Below wr.heap.size wr W') => ((HR3.out.take k2).later hW).news)
          have hdn : (rsT cs k).drop k2 = [] := List.drop_eq_nil_of_le (by rw [HRl.out]; exact Nat.le_refl _)
          have HDr := Lib.hid (fun (ad : Addr) (W' : World) (hW : Below wr.heap.size wr W') (j : Nat) (u : Value) (h : (cells ((rsT cs k).drop k2))[j]? = some u) => show W'.cell? (ad.add j) = some u from by rw [hdn] at h; simp [cells] at h)
          have hDl : (cells ((rsT cs k).drop k2)).length = 0 * 2 := by rw [hDl]; omega
          clear hdn
          go_upto_region 8 with (fail)
          go_cut [13] from 51 to 69 (fun s wx => Own wx w.heap.size s (insR (rsT cs k) y) ∧ Below w.heap.size w wx ∧ Blk wx w.heap.size 26 #[.int .i64 m.W, .int .i64 m.H, .slice a m.R.length ca, .slice b m.C.length cb])
          case first =>
            by_cases hck : cp3 = k2
            · obtain rfl : k2 = cp3 := hck.symm
              refine wp_region_noPanic ?_
              refine wp_region_held_drew (S := (fun Wx : World => Wx.cell? ⟨b1, off + k * 2 + 1, none⟩ = some (.int .i64 y.ce))) (by kernel_rfl) j1 (fun hHeld => ?_)
              refine wpAnyH_take (i := 1) (oi := _) (v := ?_) rfl (by kernel_rfl) (by kernel_rfl) (by kernel_rfl) (fun _ _ _ h => h) (Or.inl ⟨by rfl, ?_⟩) (by assumption) ?_; rotate_left; focus (intro W hSw; (try dsimp only at hSw); go_simp; (first | done | with_reducible rfl))
              (try simp only [List.getElem_toArray, List.getElem_cons_succ, List.getElem_cons_zero, Act.put, List.setIfInBounds_toArray, List.set_cons_zero, List.set_cons_succ])
              refine wpAnyH_take (i := 2) (oi := _) (v := ?_) rfl (by kernel_rfl) (by kernel_rfl) (by kernel_rfl) (fun _ _ _ h => h) (Or.inl ⟨by rfl, ?_⟩) (by assumption) ?_; rotate_left; focus (intro W hSw; (try dsimp only at hSw); go_simp; (first | done | with_reducible rfl))
              (try simp only [List.getElem_toArray, List.getElem_cons_succ, List.getElem_cons_zero, Act.put, List.setIfInBounds_toArray, List.set_cons_zero, List.set_cons_succ])
              refine wpAnyH_take (i := 3) (oi := _) (v := ?_) rfl (by kernel_rfl) (by kernel_rfl) (by kernel_rfl) (fun _ _ _ h => h) (Or.inl ⟨by rfl, ?_⟩) (by assumption) ?_; rotate_left; focus (intro W hSw; (try dsimp only at hSw); go_simp; (first | done | with_reducible rfl))
              (try simp only [List.getElem_toArray, List.getElem_cons_succ, List.getElem_cons_zero, Act.put, List.setIfInBounds_toArray, List.set_cons_zero, List.set_cons_succ])
              refine wpAnyH_take (i := 5) (oi := _) (v := ?_) rfl (by kernel_rfl) (by kernel_rfl) (by kernel_rfl) (fun _ _ _ h => h) (Or.inl ⟨by rfl, ?_⟩) (by assumption) ?_; rotate_left; focus (intro W hSw; (try dsimp only at hSw); go_simp; (first | done | with_reducible rfl))
              (try simp only [List.getElem_toArray, List.getElem_cons_succ, List.getElem_cons_zero, Act.put, List.setIfInBounds_toArray, List.set_cons_zero, List.set_cons_succ])
              refine wpAnyH_take (i := 6) (oi := _) (v := ?_) rfl (by kernel_rfl) (by kernel_rfl) (by kernel_rfl) (fun _ _ _ h => h) (Or.inl ⟨by rfl, ?_⟩) (by assumption) ?_; rotate_left; focus (intro W hSw; (try dsimp only at hSw); go_simp; (first | done | with_reducible rfl))
              (try simp only [List.getElem_toArray, List.getElem_cons_succ, List.getElem_cons_zero, Act.put, List.setIfInBounds_toArray, List.set_cons_zero, List.set_cons_succ])
              refine wpAnyH_take (i := 7) (oi := _) (v := ?_) rfl (by kernel_rfl) (by kernel_rfl) (by kernel_rfl) (fun _ _ _ h => h) (Or.inl ⟨by rfl, ?_⟩) (by assumption) ?_; rotate_left; focus (intro W hSw; (try dsimp only at hSw); go_simp; (first | done | with_reducible rfl))
              (try simp only [List.getElem_toArray, List.getElem_cons_succ, List.getElem_cons_zero, Act.put, List.setIfInBounds_toArray, List.set_cons_zero, List.set_cons_succ])
              refine wpAnyH_take (i := 8) (oi := _) (v := ?_) rfl (by kernel_rfl) (by kernel_rfl) (by kernel_rfl) (fun _ _ _ h => h) (Or.inl ⟨by rfl, ?_⟩) (by assumption) ?_; rotate_left; focus (intro W hSw; (try dsimp only at hSw); go_simp; (first | done | with_reducible rfl))
              (try simp only [List.getElem_toArray, List.getElem_cons_succ, List.getElem_cons_zero, Act.put, List.setIfInBounds_toArray, List.set_cons_zero, List.set_cons_succ])
              refine wpAnyH_take (i := 9) (oi := _) (v := ?_) rfl (by kernel_rfl) (by kernel_rfl) (by kernel_rfl) (fun _ _ _ h => h) (Or.inl ⟨by rfl, ?_⟩) (by assumption) ?_; rotate_left; focus (intro W hSw; (try dsimp only at hSw); go_simp; (first | done | with_reducible rfl))
              (try simp only [List.getElem_toArray, List.getElem_cons_succ, List.getElem_cons_zero, Act.put, List.setIfInBounds_toArray, List.set_cons_zero, List.set_cons_succ])
              refine wpAnyH_take (i := 10) (oi := _) (v := ?_) rfl (by kernel_rfl) (by kernel_rfl) (by kernel_rfl) (fun _ _ _ h => h) (Or.inl ⟨by rfl, ?_⟩) (by assumption) ?_; rotate_left; focus (intro W hSw; (try dsimp only at hSw); go_simp; (first | done | with_reducible rfl))
              (try simp only [List.getElem_toArray, List.getElem_cons_succ, List.getElem_cons_zero, Act.put, List.setIfInBounds_toArray, List.set_cons_zero, List.set_cons_succ])
              refine wpAnyH_take (i := 11) (oi := _) (v := ?_) rfl (by kernel_rfl) (by kernel_rfl) (by kernel_rfl) (fun _ _ _ h => h) (Or.inl ⟨by rfl, ?_⟩) (by assumption) ?_; rotate_left; focus (intro W hSw; (try dsimp only at hSw); go_simp; (first | done | with_reducible rfl))
              (try simp only [List.getElem_toArray, List.getElem_cons_succ, List.getElem_cons_zero, Act.put, List.setIfInBounds_toArray, List.set_cons_zero, List.set_cons_succ])
              refine wpAnyH_take (i := 14) (oi := _) (v := ?_) rfl (by kernel_rfl) (by kernel_rfl) (by kernel_rfl) (fun _ _ _ h => h) (Or.inl ⟨by rfl, ?_⟩) (by assumption) ?_; rotate_left; focus (intro W hSw; (try dsimp only at hSw); go_simp; (first | done | with_reducible rfl))
              (try simp only [List.getElem_toArray, List.getElem_cons_succ, List.getElem_cons_zero, Act.put, List.setIfInBounds_toArray, List.set_cons_zero, List.set_cons_succ])
              refine wpAnyH_take (i := 15) (oi := _) (v := ?_) rfl (by kernel_rfl) (by kernel_rfl) (by kernel_rfl) (fun _ _ _ h => h) (Or.inl ⟨by rfl, ?_⟩) (by assumption) ?_; rotate_left; focus (intro W hSw; (try dsimp only at hSw); go_simp; (first | done | with_reducible rfl))
              (try simp only [List.getElem_toArray, List.getElem_cons_succ, List.getElem_cons_zero, Act.put, List.setIfInBounds_toArray, List.set_cons_zero, List.set_cons_succ])
              refine wpAnyH_take (i := 16) (oi := _) (v := ?_) rfl (by kernel_rfl) (by kernel_rfl) (by kernel_rfl) (fun _ _ _ h => h) (Or.inl ⟨by rfl, ?_⟩) (by assumption) ?_; rotate_left; focus (intro W hSw; (try dsimp only at hSw); go_simp; (first | done | with_reducible rfl))
              (try simp only [List.getElem_toArray, List.getElem_cons_succ, List.getElem_cons_zero, Act.put, List.setIfInBounds_toArray, List.set_cons_zero, List.set_cons_succ])
              refine wpAnyH_ready (rs := [0, 12]) (by kernel_rfl) (by simp) ?_
              refine AllReadyH.cons (o := _) rfl (fun K hK => ?_) (AllReadyH.cons (o := _) rfl (fun K hK => ?_) (AllReadyH.nil))
              · go_simp
                have HG0 := Lib.hid (A3.G3.start wr 58 2)
                (try simp only [Act.put, List.setIfInBounds_toArray, List.set_cons_zero, List.set_cons_succ])
                refine hK.out _ _ (HS8.out _ (HG0.out.b)) (fun _ => ?_)
                clear hK K hHeld
                refine wpAnyH_ready (rs := [4, 12]) (by kernel_rfl) (by simp) ?_
                refine AllReadyH.cons (o := _) rfl (fun K hK => ?_) (AllReadyH.cons (o := _) rfl (fun K hK => ?_) (AllReadyH.nil))
                · skip
                  rw [if_pos (by rfl)]
                  refine HG0.out.wp (.tmp 51) (.tmp 54) 40 rfl Try.underlying40 t0 hi0 (.agg #[.int .i64 no.co, .int .i64 no.ce]) hz0 16 hz1 hz2 rfl (by decide) (by rfl) (adx) (k2) (_) (cells ((rsT cs k).take k2)) (by (try simp only [Act.eval, Act.put]); rfl) (hTl) (HTk.out _ HG0.out.b) (cells_one _) (by unfold maxLen; omega) (by omega) ?_
                  intro v1 w1 hg hgr
                  have HG1 := Lib.hid hg
                  have HR1 := Lib.hid hgr
                  clear hg hgr
                  (try simp only [Act.put, List.setIfInBounds_toArray, List.set_cons_zero, List.set_cons_succ])
                  refine hK.out _ _ (HS8.out _ (HG1.out.b)) (fun _ => ?_)
                  clear hK K
                  refine wpAnyH_ready (rs := [12]) (by kernel_rfl) (by simp) ?_
                  refine AllReadyH.cons (o := _) rfl (fun K hK => ?_) (AllReadyH.nil)
                  go_simp
                  have HX := Lib.hid (Blk.new w1 58 (cells [y]).toArray)
                  have HGa := Lib.hid (HG1.out.alloc (.cells (cells [y]).toArray 58))
                  (try simp only [Act.put, List.setIfInBounds_toArray, List.set_cons_zero, List.set_cons_succ])
                  refine hK.out _ _ (HS8.out _ (HGa.out.b)) (fun _ => ?_)
                  clear hK K
                  refine wpAnyH_ready (rs := [13]) (by kernel_rfl) (by simp) ?_
                  refine AllReadyH.cons (o := _) rfl (fun K hK => ?_) (AllReadyH.nil)
                  rw [if_pos (by rfl)]
                  refine HGa.out.wp (.tmp 55) (.tmp 63) 40 rfl Try.underlying40 t0 hi0 (.agg #[.int .i64 no.co, .int .i64 no.ce]) hz0 16 hz1 hz2 rfl (by decide) (by rfl) (⟨_, 0, none⟩) (1) (1) (cells [y]) (by (try simp only [Act.eval, Act.put]); rfl) (rfl) (A3.blk_news HX.out) (cells_one [y]) (by unfold maxLen; omega) (by omega) ?_
                  intro v2 w2 hg hgr
                  have HG2 := Lib.hid hg
                  have HR2 := Lib.hid hgr
                  clear hg hgr
                  (try simp only [Act.put, List.setIfInBounds_toArray, List.set_cons_zero, List.set_cons_succ])
                  refine hK.out _ _ (HS8.out _ (HG2.out.b)) (fun _ => ?_)
                  clear hK K
                  refine wpAnyH_ready (rs := [17]) (by kernel_rfl) (by simp) ?_
                  refine AllReadyH.cons (o := _) rfl (fun K hK => ?_) (AllReadyH.nil)
                  rw [if_pos (by rfl)]
                  refine HG2.out.wp (.tmp 64) (.tmp 67) 40 rfl Try.underlying40 t0 hi0 (.agg #[.int .i64 no.co, .int .i64 no.ce]) hz0 16 hz1 hz2 rfl (by decide) (by rfl) (_) (0) (_) (cells ((rsT cs k).drop k2)) (by (try simp only [Act.eval, Act.put]); rfl) (hDl) (HDr.out _ _ HG2.out.b) (cells_one _) (by unfold maxLen; omega) (by omega) ?_
                  intro v3 w3 hg hgr
                  have HG3 := Lib.hid hg
                  have HR3 := Lib.hid hgr
                  clear hg hgr
                  (try simp only [Act.put, List.setIfInBounds_toArray, List.set_cons_zero, List.set_cons_succ])
                  refine hK.out _ _ (HS8.out _ (HG3.out.b)) (fun _ => ?_)
                  clear hK K
                  refine wpAnyH_take (i := 18) (oi := _) (v := ?_) rfl (by kernel_rfl) (by kernel_rfl) (by kernel_rfl) (fun _ _ _ h => h) (Or.inl ⟨by rfl, ?_⟩) (by assumption) ?_; rotate_left; focus (intro W hSw; (try dsimp only at hSw); go_simp; (first | done | with_reducible rfl))
                  (try simp only [List.getElem_toArray, List.getElem_cons_succ, List.getElem_cons_zero, Act.put, List.setIfInBounds_toArray, List.set_cons_zero, List.set_cons_succ])
                  refine wpAnyH_done (by kernel_rfl) ?_ _
                  refine NoPanic.normal ?_
                  (try simp only [List.getElem_toArray, List.getElem_cons_succ, List.getElem_cons_zero, Act.put, List.setIfInBounds_toArray, List.set_cons_zero, List.set_cons_succ])
                  go_wp2
                  go_meet
                  exact ⟨ins_some HG3.out HB3.out.size HRl.out hk2l (by omega) HK2e.out, HB3.out.trans (HG3.out.b.mono HB3.out.size), HK3.out.later HG3.out.b⟩
                · go_simp
                  have HX := Lib.hid (show Blk ((wr.drew.alloc (.cells #[] 58)).alloc (.cells (cells [y]).toArray 58)) (wr.heap.size + 1) 58 (cells [y]).toArray from Blk.at_ (by simp))
                  have HGa := Lib.hid (HG0.out.alloc (.cells (cells [y]).toArray 58))
                  (try simp only [Act.put, List.setIfInBounds_toArray, List.set_cons_zero, List.set_cons_succ])
                  refine hK.out _ _ (HS8.out _ (HGa.out.b)) (fun _ => ?_)
                  clear hK K
                  refine wpAnyH_ready (rs := [4]) (by kernel_rfl) (by simp) ?_
                  refine AllReadyH.cons (o := _) rfl (fun K hK => ?_) (AllReadyH.nil)
                  rw [if_pos (by rfl)]
                  refine HGa.out.wp (.tmp 51) (.tmp 54) 40 rfl Try.underlying40 t0 hi0 (.agg #[.int .i64 no.co, .int .i64 no.ce]) hz0 16 hz1 hz2 rfl (by decide) (by rfl) (adx) (k2) (_) (cells ((rsT cs k).take k2)) (by (try simp only [Act.eval, Act.put]); rfl) (hTl) (HTk.out _ HGa.out.b) (cells_one _) (by unfold maxLen; omega) (by omega) ?_
                  intro v1 w1 hg hgr
                  have HG1 := Lib.hid hg
                  have HR1 := Lib.hid hgr
                  clear hg hgr
                  have HX1 := Lib.hid (A3.blk_grown HX.out HR1.out (fun e => by simp [Value.ownBlock] at e))
                  (try simp only [Act.put, List.setIfInBounds_toArray, List.set_cons_zero, List.set_cons_succ])
                  refine hK.out _ _ (HS8.out _ (HG1.out.b)) (fun _ => ?_)
                  clear hK K
                  refine wpAnyH_ready (rs := [13]) (by kernel_rfl) (by simp) ?_
                  refine AllReadyH.cons (o := _) rfl (fun K hK => ?_) (AllReadyH.nil)
                  rw [if_pos (by rfl)]
                  refine HG1.out.wp (.tmp 55) (.tmp 63) 40 rfl Try.underlying40 t0 hi0 (.agg #[.int .i64 no.co, .int .i64 no.ce]) hz0 16 hz1 hz2 rfl (by decide) (by rfl) (⟨_, 0, none⟩) (1) (1) (cells [y]) (by (try simp only [Act.eval, Act.put]); rfl) (rfl) (A3.blk_news HX1.out) (cells_one [y]) (by unfold maxLen; omega) (by omega) ?_
                  intro v2 w2 hg hgr
                  have HG2 := Lib.hid hg
                  have HR2 := Lib.hid hgr
                  clear hg hgr
                  (try simp only [Act.put, List.setIfInBounds_toArray, List.set_cons_zero, List.set_cons_succ])
                  refine hK.out _ _ (HS8.out _ (HG2.out.b)) (fun _ => ?_)
                  clear hK K
                  refine wpAnyH_ready (rs := [17]) (by kernel_rfl) (by simp) ?_
                  refine AllReadyH.cons (o := _) rfl (fun K hK => ?_) (AllReadyH.nil)
                  rw [if_pos (by rfl)]
                  refine HG2.out.wp (.tmp 64) (.tmp 67) 40 rfl Try.underlying40 t0 hi0 (.agg #[.int .i64 no.co, .int .i64 no.ce]) hz0 16 hz1 hz2 rfl (by decide) (by rfl) (_) (0) (_) (cells ((rsT cs k).drop k2)) (by (try simp only [Act.eval, Act.put]); rfl) (hDl) (HDr.out _ _ HG2.out.b) (cells_one _) (by unfold maxLen; omega) (by omega) ?_
                  intro v3 w3 hg hgr
                  have HG3 := Lib.hid hg
                  have HR3 := Lib.hid hgr
                  clear hg hgr
                  (try simp only [Act.put, List.setIfInBounds_toArray, List.set_cons_zero, List.set_cons_succ])
                  refine hK.out _ _ (HS8.out _ (HG3.out.b)) (fun _ => ?_)
                  clear hK K
                  refine wpAnyH_take (i := 18) (oi := _) (v := ?_) rfl (by kernel_rfl) (by kernel_rfl) (by kernel_rfl) (fun _ _ _ h => h) (Or.inl ⟨by rfl, ?_⟩) (by assumption) ?_; rotate_left; focus (intro W hSw; (try dsimp only at hSw); go_simp; (first | done | with_reducible rfl))
                  (try simp only [List.getElem_toArray, List.getElem_cons_succ, List.getElem_cons_zero, Act.put, List.setIfInBounds_toArray, List.set_cons_zero, List.set_cons_succ])
                  refine wpAnyH_done (by kernel_rfl) ?_ _
                  refine NoPanic.normal ?_
                  (try simp only [List.getElem_toArray, List.getElem_cons_succ, List.getElem_cons_zero, Act.put, List.setIfInBounds_toArray, List.set_cons_zero, List.set_cons_succ])
                  go_wp2
                  go_meet
                  exact ⟨ins_some HG3.out HB3.out.size HRl.out hk2l (by omega) HK2e.out, HB3.out.trans (HG3.out.b.mono HB3.out.size), HK3.out.later HG3.out.b⟩
              · go_simp
                have HX := Lib.hid (Blk.new wr.drew 58 (cells [y]).toArray)
                have HBx := Lib.hid ((Below.refl wr.heap.size wr).drew.alloc (Nat.le_refl _) (.cells (cells [y]).toArray 58))
                (try simp only [Act.put, List.setIfInBounds_toArray, List.set_cons_zero, List.set_cons_succ])
                refine hK.out _ _ (HS8.out _ (HBx.out)) (fun _ => ?_)
                clear hK K hHeld
                refine wpAnyH_ready (rs := [0]) (by kernel_rfl) (by simp) ?_
                refine AllReadyH.cons (o := _) rfl (fun K hK => ?_) (AllReadyH.nil)
                go_simp
                have HG0 := Lib.hid (show A3.G3 wr 58 2 ((wr.drew.alloc (.cells (cells [y]).toArray 58)).alloc (.cells #[] 58)) (.slice (some ⟨wr.heap.size + 1, 0, none⟩) 0 0) 0 [] from A3.G3.after HBx.out (by simp))
                have HXo := Lib.hid (HX.out.alloc (.cells #[] 58))
                (try simp only [Act.put, List.setIfInBounds_toArray, List.set_cons_zero, List.set_cons_succ])
                refine hK.out _ _ (HS8.out _ (HG0.out.b)) (fun _ => ?_)
                clear hK K
                refine wpAnyH_ready (rs := [4]) (by kernel_rfl) (by simp) ?_
                refine AllReadyH.cons (o := _) rfl (fun K hK => ?_) (AllReadyH.nil)
                rw [if_pos (by rfl)]
                refine HG0.out.wp (.tmp 51) (.tmp 54) 40 rfl Try.underlying40 t0 hi0 (.agg #[.int .i64 no.co, .int .i64 no.ce]) hz0 16 hz1 hz2 rfl (by decide) (by rfl) (adx) (k2) (_) (cells ((rsT cs k).take k2)) (by (try simp only [Act.eval, Act.put]); rfl) (hTl) (HTk.out _ HG0.out.b) (cells_one _) (by unfold maxLen; omega) (by omega) ?_
                intro v1 w1 hg hgr
                have HG1 := Lib.hid hg
                have HR1 := Lib.hid hgr
                clear hg hgr
                have HX1 := Lib.hid (A3.blk_grown HXo.out HR1.out (fun e => by simp [Value.ownBlock] at e))
                (try simp only [Act.put, List.setIfInBounds_toArray, List.set_cons_zero, List.set_cons_succ])
                refine hK.out _ _ (HS8.out _ (HG1.out.b)) (fun _ => ?_)
                clear hK K
                refine wpAnyH_ready (rs := [13]) (by kernel_rfl) (by simp) ?_
                refine AllReadyH.cons (o := _) rfl (fun K hK => ?_) (AllReadyH.nil)
                rw [if_pos (by rfl)]
                refine HG1.out.wp (.tmp 55) (.tmp 63) 40 rfl Try.underlying40 t0 hi0 (.agg #[.int .i64 no.co, .int .i64 no.ce]) hz0 16 hz1 hz2 rfl (by decide) (by rfl) (⟨_, 0, none⟩) (1) (1) (cells [y]) (by (try simp only [Act.eval, Act.put]); rfl) (rfl) (A3.blk_news HX1.out) (cells_one [y]) (by unfold maxLen; omega) (by omega) ?_
                intro v2 w2 hg hgr
                have HG2 := Lib.hid hg
                have HR2 := Lib.hid hgr
                clear hg hgr
                (try simp only [Act.put, List.setIfInBounds_toArray, List.set_cons_zero, List.set_cons_succ])
                refine hK.out _ _ (HS8.out _ (HG2.out.b)) (fun _ => ?_)
                clear hK K
                refine wpAnyH_ready (rs := [17]) (by kernel_rfl) (by simp) ?_
                refine AllReadyH.cons (o := _) rfl (fun K hK => ?_) (AllReadyH.nil)
                rw [if_pos (by rfl)]
                refine HG2.out.wp (.tmp 64) (.tmp 67) 40 rfl Try.underlying40 t0 hi0 (.agg #[.int .i64 no.co, .int .i64 no.ce]) hz0 16 hz1 hz2 rfl (by decide) (by rfl) (_) (0) (_) (cells ((rsT cs k).drop k2)) (by (try simp only [Act.eval, Act.put]); rfl) (hDl) (HDr.out _ _ HG2.out.b) (cells_one _) (by unfold maxLen; omega) (by omega) ?_
                intro v3 w3 hg hgr
                have HG3 := Lib.hid hg
                have HR3 := Lib.hid hgr
                clear hg hgr
                (try simp only [Act.put, List.setIfInBounds_toArray, List.set_cons_zero, List.set_cons_succ])
                refine hK.out _ _ (HS8.out _ (HG3.out.b)) (fun _ => ?_)
                clear hK K
                refine wpAnyH_take (i := 18) (oi := _) (v := ?_) rfl (by kernel_rfl) (by kernel_rfl) (by kernel_rfl) (fun _ _ _ h => h) (Or.inl ⟨by rfl, ?_⟩) (by assumption) ?_; rotate_left; focus (intro W hSw; (try dsimp only at hSw); go_simp; (first | done | with_reducible rfl))
                (try simp only [List.getElem_toArray, List.getElem_cons_succ, List.getElem_cons_zero, Act.put, List.setIfInBounds_toArray, List.set_cons_zero, List.set_cons_succ])
                refine wpAnyH_done (by kernel_rfl) ?_ _
                refine NoPanic.normal ?_
                (try simp only [List.getElem_toArray, List.getElem_cons_succ, List.getElem_cons_zero, Act.put, List.setIfInBounds_toArray, List.set_cons_zero, List.set_cons_succ])
                go_wp2
                go_meet
                exact ⟨ins_some HG3.out HB3.out.size HRl.out hk2l (by omega) HK2e.out, HB3.out.trans (HG3.out.b.mono HB3.out.size), HK3.out.later HG3.out.b⟩
            · skip
              refine wp_region_noPanic ?_
              refine wp_region_held_drew (S := (fun Wx : World => Wx.cell? ⟨b1, off + k * 2 + 1, none⟩ = some (.int .i64 y.ce))) (by kernel_rfl) j1 (fun hHeld => ?_)
              refine wpAnyH_take (i := 1) (oi := _) (v := ?_) rfl (by kernel_rfl) (by kernel_rfl) (by kernel_rfl) (fun _ _ _ h => h) (Or.inl ⟨by rfl, ?_⟩) (by assumption) ?_; rotate_left; focus (intro W hSw; (try dsimp only at hSw); go_simp; (first | done | with_reducible rfl))
              (try simp only [List.getElem_toArray, List.getElem_cons_succ, List.getElem_cons_zero, Act.put, List.setIfInBounds_toArray, List.set_cons_zero, List.set_cons_succ])
              refine wpAnyH_take (i := 2) (oi := _) (v := ?_) rfl (by kernel_rfl) (by kernel_rfl) (by kernel_rfl) (fun _ _ _ h => h) (Or.inl ⟨by rfl, ?_⟩) (by assumption) ?_; rotate_left; focus (intro W hSw; (try dsimp only at hSw); go_simp; (first | done | with_reducible rfl))
              (try simp only [List.getElem_toArray, List.getElem_cons_succ, List.getElem_cons_zero, Act.put, List.setIfInBounds_toArray, List.set_cons_zero, List.set_cons_succ])
              refine wpAnyH_take (i := 3) (oi := _) (v := ?_) rfl (by kernel_rfl) (by kernel_rfl) (by kernel_rfl) (fun _ _ _ h => h) (Or.inl ⟨by rfl, ?_⟩) (by assumption) ?_; rotate_left; focus (intro W hSw; (try dsimp only at hSw); go_simp; (first | done | with_reducible rfl))
              (try simp only [List.getElem_toArray, List.getElem_cons_succ, List.getElem_cons_zero, Act.put, List.setIfInBounds_toArray, List.set_cons_zero, List.set_cons_succ])
              refine wpAnyH_take (i := 5) (oi := _) (v := ?_) rfl (by kernel_rfl) (by kernel_rfl) (by kernel_rfl) (fun _ _ _ h => h) (Or.inl ⟨by rfl, ?_⟩) (by assumption) ?_; rotate_left; focus (intro W hSw; (try dsimp only at hSw); go_simp; (first | done | with_reducible rfl))
              (try simp only [List.getElem_toArray, List.getElem_cons_succ, List.getElem_cons_zero, Act.put, List.setIfInBounds_toArray, List.set_cons_zero, List.set_cons_succ])
              refine wpAnyH_take (i := 6) (oi := _) (v := ?_) rfl (by kernel_rfl) (by kernel_rfl) (by kernel_rfl) (fun _ _ _ h => h) (Or.inl ⟨by rfl, ?_⟩) (by assumption) ?_; rotate_left; focus (intro W hSw; (try dsimp only at hSw); go_simp; (first | done | with_reducible rfl))
              (try simp only [List.getElem_toArray, List.getElem_cons_succ, List.getElem_cons_zero, Act.put, List.setIfInBounds_toArray, List.set_cons_zero, List.set_cons_succ])
              refine wpAnyH_take (i := 7) (oi := _) (v := ?_) rfl (by kernel_rfl) (by kernel_rfl) (by kernel_rfl) (fun _ _ _ h => h) (Or.inl ⟨by rfl, ?_⟩) (by assumption) ?_; rotate_left; focus (intro W hSw; (try dsimp only at hSw); go_simp; (first | done | with_reducible rfl))
              (try simp only [List.getElem_toArray, List.getElem_cons_succ, List.getElem_cons_zero, Act.put, List.setIfInBounds_toArray, List.set_cons_zero, List.set_cons_succ])
              refine wpAnyH_take (i := 8) (oi := _) (v := ?_) rfl (by kernel_rfl) (by kernel_rfl) (by kernel_rfl) (fun _ _ _ h => h) (Or.inl ⟨by rfl, ?_⟩) (by assumption) ?_; rotate_left; focus (intro W hSw; (try dsimp only at hSw); go_simp; (first | done | with_reducible rfl))
              (try simp only [List.getElem_toArray, List.getElem_cons_succ, List.getElem_cons_zero, Act.put, List.setIfInBounds_toArray, List.set_cons_zero, List.set_cons_succ])
              refine wpAnyH_take (i := 9) (oi := _) (v := ?_) rfl (by kernel_rfl) (by kernel_rfl) (by kernel_rfl) (fun _ _ _ h => h) (Or.inl ⟨by rfl, ?_⟩) (by assumption) ?_; rotate_left; focus (intro W hSw; (try dsimp only at hSw); go_simp; (first | done | with_reducible rfl))
              (try simp only [List.getElem_toArray, List.getElem_cons_succ, List.getElem_cons_zero, Act.put, List.setIfInBounds_toArray, List.set_cons_zero, List.set_cons_succ])
              refine wpAnyH_take (i := 10) (oi := _) (v := ?_) rfl (by kernel_rfl) (by kernel_rfl) (by kernel_rfl) (fun _ _ _ h => h) (Or.inl ⟨by rfl, ?_⟩) (by assumption) ?_; rotate_left; focus (intro W hSw; (try dsimp only at hSw); go_simp; (first | done | with_reducible rfl))
              (try simp only [List.getElem_toArray, List.getElem_cons_succ, List.getElem_cons_zero, Act.put, List.setIfInBounds_toArray, List.set_cons_zero, List.set_cons_succ])
              refine wpAnyH_take (i := 11) (oi := _) (v := ?_) rfl (by kernel_rfl) (by kernel_rfl) (by kernel_rfl) (fun _ _ _ h => h) (Or.inl ⟨by rfl, ?_⟩) (by assumption) ?_; rotate_left; focus (intro W hSw; (try dsimp only at hSw); go_simp; (first | done | with_reducible rfl))
              (try simp only [List.getElem_toArray, List.getElem_cons_succ, List.getElem_cons_zero, Act.put, List.setIfInBounds_toArray, List.set_cons_zero, List.set_cons_succ])
              refine wpAnyH_take (i := 14) (oi := _) (v := ?_) rfl (by kernel_rfl) (by kernel_rfl) (by kernel_rfl) (fun _ _ _ h => h) (Or.inl ⟨by rfl, ?_⟩) (by assumption) ?_; rotate_left; focus (intro W hSw; (try dsimp only at hSw); go_simp; (first | done | with_reducible rfl))
              (try simp only [List.getElem_toArray, List.getElem_cons_succ, List.getElem_cons_zero, Act.put, List.setIfInBounds_toArray, List.set_cons_zero, List.set_cons_succ])
              refine wpAnyH_take (i := 15) (oi := _) (v := ?_) rfl (by kernel_rfl) (by kernel_rfl) (by kernel_rfl) (fun _ _ _ h => h) (Or.inl ⟨by rfl, ?_⟩) (by assumption) ?_; rotate_left; focus (intro W hSw; (try dsimp only at hSw); go_simp; (first | done | with_reducible rfl))
              (try simp only [List.getElem_toArray, List.getElem_cons_succ, List.getElem_cons_zero, Act.put, List.setIfInBounds_toArray, List.set_cons_zero, List.set_cons_succ])
              refine wpAnyH_take (i := 16) (oi := _) (v := ?_) rfl (by kernel_rfl) (by kernel_rfl) (by kernel_rfl) (fun _ _ _ h => h) (Or.inl ⟨by rfl, ?_⟩) (by assumption) ?_; rotate_left; focus (intro W hSw; (try dsimp only at hSw); go_simp; (first | done | with_reducible rfl))
              (try simp only [List.getElem_toArray, List.getElem_cons_succ, List.getElem_cons_zero, Act.put, List.setIfInBounds_toArray, List.set_cons_zero, List.set_cons_succ])
              refine wpAnyH_ready (rs := [0, 12]) (by kernel_rfl) (by simp) ?_
              refine AllReadyH.cons (o := _) rfl (fun K hK => ?_) (AllReadyH.cons (o := _) rfl (fun K hK => ?_) (AllReadyH.nil))
              · go_simp
                have HG0 := Lib.hid (A3.G3.start wr 58 2)
                (try simp only [Act.put, List.setIfInBounds_toArray, List.set_cons_zero, List.set_cons_succ])
                refine hK.out _ _ (HS8.out _ (HG0.out.b)) (fun _ => ?_)
                clear hK K hHeld
                refine wpAnyH_ready (rs := [4, 12]) (by kernel_rfl) (by simp) ?_
                refine AllReadyH.cons (o := _) rfl (fun K hK => ?_) (AllReadyH.cons (o := _) rfl (fun K hK => ?_) (AllReadyH.nil))
                · skip
                  rw [if_pos (by rfl)]
                  refine HG0.out.wp (.tmp 51) (.tmp 54) 40 rfl Try.underlying40 t0 hi0 (.agg #[.int .i64 no.co, .int .i64 no.ce]) hz0 16 hz1 hz2 rfl (by decide) (by rfl) (adx) (k2) (_) (cells ((rsT cs k).take k2)) (by (try simp only [Act.eval, Act.put]); rfl) (hTl) (HTk.out _ HG0.out.b) (cells_one _) (by unfold maxLen; omega) (by omega) ?_
                  intro v1 w1 hg hgr
                  have HG1 := Lib.hid hg
                  have HR1 := Lib.hid hgr
                  clear hg hgr
                  (try simp only [Act.put, List.setIfInBounds_toArray, List.set_cons_zero, List.set_cons_succ])
                  refine hK.out _ _ (HS8.out _ (HG1.out.b)) (fun _ => ?_)
                  clear hK K
                  refine wpAnyH_ready (rs := [12]) (by kernel_rfl) (by simp) ?_
                  refine AllReadyH.cons (o := _) rfl (fun K hK => ?_) (AllReadyH.nil)
                  go_simp
                  have HX := Lib.hid (Blk.new w1 58 (cells [y]).toArray)
                  have HGa := Lib.hid (HG1.out.alloc (.cells (cells [y]).toArray 58))
                  (try simp only [Act.put, List.setIfInBounds_toArray, List.set_cons_zero, List.set_cons_succ])
                  refine hK.out _ _ (HS8.out _ (HGa.out.b)) (fun _ => ?_)
                  clear hK K
                  refine wpAnyH_ready (rs := [13]) (by kernel_rfl) (by simp) ?_
                  refine AllReadyH.cons (o := _) rfl (fun K hK => ?_) (AllReadyH.nil)
                  rw [if_pos (by rfl)]
                  refine HGa.out.wp (.tmp 55) (.tmp 63) 40 rfl Try.underlying40 t0 hi0 (.agg #[.int .i64 no.co, .int .i64 no.ce]) hz0 16 hz1 hz2 rfl (by decide) (by rfl) (⟨_, 0, none⟩) (1) (1) (cells [y]) (by (try simp only [Act.eval, Act.put]); rfl) (rfl) (A3.blk_news HX.out) (cells_one [y]) (by unfold maxLen; omega) (by omega) ?_
                  intro v2 w2 hg hgr
                  have HG2 := Lib.hid hg
                  have HR2 := Lib.hid hgr
                  clear hg hgr
                  (try simp only [Act.put, List.setIfInBounds_toArray, List.set_cons_zero, List.set_cons_succ])
                  refine hK.out _ _ (HS8.out _ (HG2.out.b)) (fun _ => ?_)
                  clear hK K
                  refine wpAnyH_ready (rs := [17]) (by kernel_rfl) (by simp) ?_
                  refine AllReadyH.cons (o := _) rfl (fun K hK => ?_) (AllReadyH.nil)
                  rw [if_pos (by rfl)]
                  refine HG2.out.wp (.tmp 64) (.tmp 67) 40 rfl Try.underlying40 t0 hi0 (.agg #[.int .i64 no.co, .int .i64 no.ce]) hz0 16 hz1 hz2 rfl (by decide) (by rfl) (_) (0) (_) (cells ((rsT cs k).drop k2)) (by (try simp only [Act.eval, Act.put]); rfl) (hDl) (HDr.out _ _ HG2.out.b) (cells_one _) (by unfold maxLen; omega) (by omega) ?_
                  intro v3 w3 hg hgr
                  have HG3 := Lib.hid hg
                  have HR3 := Lib.hid hgr
                  clear hg hgr
                  (try simp only [Act.put, List.setIfInBounds_toArray, List.set_cons_zero, List.set_cons_succ])
                  refine hK.out _ _ (HS8.out _ (HG3.out.b)) (fun _ => ?_)
                  clear hK K
                  refine wpAnyH_take (i := 18) (oi := _) (v := ?_) rfl (by kernel_rfl) (by kernel_rfl) (by kernel_rfl) (fun _ _ _ h => h) (Or.inl ⟨by rfl, ?_⟩) (by assumption) ?_; rotate_left; focus (intro W hSw; (try dsimp only at hSw); go_simp; (first | done | with_reducible rfl))
                  (try simp only [List.getElem_toArray, List.getElem_cons_succ, List.getElem_cons_zero, Act.put, List.setIfInBounds_toArray, List.set_cons_zero, List.set_cons_succ])
                  refine wpAnyH_done (by kernel_rfl) ?_ _
                  refine NoPanic.normal ?_
                  (try simp only [List.getElem_toArray, List.getElem_cons_succ, List.getElem_cons_zero, Act.put, List.setIfInBounds_toArray, List.set_cons_zero, List.set_cons_succ])
                  go_wp2
                  go_meet
                  exact ⟨ins_some HG3.out HB3.out.size HRl.out hk2l (by omega) HK2e.out, HB3.out.trans (HG3.out.b.mono HB3.out.size), HK3.out.later HG3.out.b⟩
                · go_simp
                  have HX := Lib.hid (show Blk ((wr.drew.alloc (.cells #[] 58)).alloc (.cells (cells [y]).toArray 58)) (wr.heap.size + 1) 58 (cells [y]).toArray from Blk.at_ (by simp))
                  have HGa := Lib.hid (HG0.out.alloc (.cells (cells [y]).toArray 58))
                  (try simp only [Act.put, List.setIfInBounds_toArray, List.set_cons_zero, List.set_cons_succ])
                  refine hK.out _ _ (HS8.out _ (HGa.out.b)) (fun _ => ?_)
                  clear hK K
                  refine wpAnyH_ready (rs := [4]) (by kernel_rfl) (by simp) ?_
                  refine AllReadyH.cons (o := _) rfl (fun K hK => ?_) (AllReadyH.nil)
                  rw [if_pos (by rfl)]
                  refine HGa.out.wp (.tmp 51) (.tmp 54) 40 rfl Try.underlying40 t0 hi0 (.agg #[.int .i64 no.co, .int .i64 no.ce]) hz0 16 hz1 hz2 rfl (by decide) (by rfl) (adx) (k2) (_) (cells ((rsT cs k).take k2)) (by (try simp only [Act.eval, Act.put]); rfl) (hTl) (HTk.out _ HGa.out.b) (cells_one _) (by unfold maxLen; omega) (by omega) ?_
                  intro v1 w1 hg hgr
                  have HG1 := Lib.hid hg
                  have HR1 := Lib.hid hgr
                  clear hg hgr
                  have HX1 := Lib.hid (A3.blk_grown HX.out HR1.out (fun e => by simp [Value.ownBlock] at e))
                  (try simp only [Act.put, List.setIfInBounds_toArray, List.set_cons_zero, List.set_cons_succ])
                  refine hK.out _ _ (HS8.out _ (HG1.out.b)) (fun _ => ?_)
                  clear hK K
                  refine wpAnyH_ready (rs := [13]) (by kernel_rfl) (by simp) ?_
                  refine AllReadyH.cons (o := _) rfl (fun K hK => ?_) (AllReadyH.nil)
                  rw [if_pos (by rfl)]
                  refine HG1.out.wp (.tmp 55) (.tmp 63) 40 rfl Try.underlying40 t0 hi0 (.agg #[.int .i64 no.co, .int .i64 no.ce]) hz0 16 hz1 hz2 rfl (by decide) (by rfl) (⟨_, 0, none⟩) (1) (1) (cells [y]) (by (try simp only [Act.eval, Act.put]); rfl) (rfl) (A3.blk_news HX1.out) (cells_one [y]) (by unfold maxLen; omega) (by omega) ?_
                  intro v2 w2 hg hgr
                  have HG2 := Lib.hid hg
                  have HR2 := Lib.hid hgr
                  clear hg hgr
                  (try simp only [Act.put, List.setIfInBounds_toArray, List.set_cons_zero, List.set_cons_succ])
                  refine hK.out _ _ (HS8.out _ (HG2.out.b)) (fun _ => ?_)
                  clear hK K
                  refine wpAnyH_ready (rs := [17]) (by kernel_rfl) (by simp) ?_
                  refine AllReadyH.cons (o := _) rfl (fun K hK => ?_) (AllReadyH.nil)
                  rw [if_pos (by rfl)]
                  refine HG2.out.wp (.tmp 64) (.tmp 67) 40 rfl Try.underlying40 t0 hi0 (.agg #[.int .i64 no.co, .int .i64 no.ce]) hz0 16 hz1 hz2 rfl (by decide) (by rfl) (_) (0) (_) (cells ((rsT cs k).drop k2)) (by (try simp only [Act.eval, Act.put]); rfl) (hDl) (HDr.out _ _ HG2.out.b) (cells_one _) (by unfold maxLen; omega) (by omega) ?_
                  intro v3 w3 hg hgr
                  have HG3 := Lib.hid hg
                  have HR3 := Lib.hid hgr
                  clear hg hgr
                  (try simp only [Act.put, List.setIfInBounds_toArray, List.set_cons_zero, List.set_cons_succ])
                  refine hK.out _ _ (HS8.out _ (HG3.out.b)) (fun _ => ?_)
                  clear hK K
                  refine wpAnyH_take (i := 18) (oi := _) (v := ?_) rfl (by kernel_rfl) (by kernel_rfl) (by kernel_rfl) (fun _ _ _ h => h) (Or.inl ⟨by rfl, ?_⟩) (by assumption) ?_; rotate_left; focus (intro W hSw; (try dsimp only at hSw); go_simp; (first | done | with_reducible rfl))
                  (try simp only [List.getElem_toArray, List.getElem_cons_succ, List.getElem_cons_zero, Act.put, List.setIfInBounds_toArray, List.set_cons_zero, List.set_cons_succ])
                  refine wpAnyH_done (by kernel_rfl) ?_ _
                  refine NoPanic.normal ?_
                  (try simp only [List.getElem_toArray, List.getElem_cons_succ, List.getElem_cons_zero, Act.put, List.setIfInBounds_toArray, List.set_cons_zero, List.set_cons_succ])
                  go_wp2
                  go_meet
                  exact ⟨ins_some HG3.out HB3.out.size HRl.out hk2l (by omega) HK2e.out, HB3.out.trans (HG3.out.b.mono HB3.out.size), HK3.out.later HG3.out.b⟩
              · go_simp
                have HX := Lib.hid (Blk.new wr.drew 58 (cells [y]).toArray)
                have HBx := Lib.hid ((Below.refl wr.heap.size wr).drew.alloc (Nat.le_refl _) (.cells (cells [y]).toArray 58))
                (try simp only [Act.put, List.setIfInBounds_toArray, List.set_cons_zero, List.set_cons_succ])
                refine hK.out _ _ (HS8.out _ (HBx.out)) (fun _ => ?_)
                clear hK K hHeld
                refine wpAnyH_ready (rs := [0]) (by kernel_rfl) (by simp) ?_
                refine AllReadyH.cons (o := _) rfl (fun K hK => ?_) (AllReadyH.nil)
                go_simp
                have HG0 := Lib.hid (show A3.G3 wr 58 2 ((wr.drew.alloc (.cells (cells [y]).toArray 58)).alloc (.cells #[] 58)) (.slice (some ⟨wr.heap.size + 1, 0, none⟩) 0 0) 0 [] from A3.G3.after HBx.out (by simp))
                have HXo := Lib.hid (HX.out.alloc (.cells #[] 58))
                (try simp only [Act.put, List.setIfInBounds_toArray, List.set_cons_zero, List.set_cons_succ])
                refine hK.out _ _ (HS8.out _ (HG0.out.b)) (fun _ => ?_)
                clear hK K
                refine wpAnyH_ready (rs := [4]) (by kernel_rfl) (by simp) ?_
                refine AllReadyH.cons (o := _) rfl (fun K hK => ?_) (AllReadyH.nil)
                rw [if_pos (by rfl)]
                refine HG0.out.wp (.tmp 51) (.tmp 54) 40 rfl Try.underlying40 t0 hi0 (.agg #[.int .i64 no.co, .int .i64 no.ce]) hz0 16 hz1 hz2 rfl (by decide) (by rfl) (adx) (k2) (_) (cells ((rsT cs k).take k2)) (by (try simp only [Act.eval, Act.put]); rfl) (hTl) (HTk.out _ HG0.out.b) (cells_one _) (by unfold maxLen; omega) (by omega) ?_
                intro v1 w1 hg hgr
                have HG1 := Lib.hid hg
                have HR1 := Lib.hid hgr
                clear hg hgr
                have HX1 := Lib.hid (A3.blk_grown HXo.out HR1.out (fun e => by simp [Value.ownBlock] at e))
                (try simp only [Act.put, List.setIfInBounds_toArray, List.set_cons_zero, List.set_cons_succ])
                refine hK.out _ _ (HS8.out _ (HG1.out.b)) (fun _ => ?_)
                clear hK K
                refine wpAnyH_ready (rs := [13]) (by kernel_rfl) (by simp) ?_
                refine AllReadyH.cons (o := _) rfl (fun K hK => ?_) (AllReadyH.nil)
                rw [if_pos (by rfl)]
                refine HG1.out.wp (.tmp 55) (.tmp 63) 40 rfl Try.underlying40 t0 hi0 (.agg #[.int .i64 no.co, .int .i64 no.ce]) hz0 16 hz1 hz2 rfl (by decide) (by rfl) (⟨_, 0, none⟩) (1) (1) (cells [y]) (by (try simp only [Act.eval, Act.put]); rfl) (rfl) (A3.blk_news HX1.out) (cells_one [y]) (by unfold maxLen; omega) (by omega) ?_
                intro v2 w2 hg hgr
                have HG2 := Lib.hid hg
                have HR2 := Lib.hid hgr
                clear hg hgr
                (try simp only [Act.put, List.setIfInBounds_toArray, List.set_cons_zero, List.set_cons_succ])
                refine hK.out _ _ (HS8.out _ (HG2.out.b)) (fun _ => ?_)
                clear hK K
                refine wpAnyH_ready (rs := [17]) (by kernel_rfl) (by simp) ?_
                refine AllReadyH.cons (o := _) rfl (fun K hK => ?_) (AllReadyH.nil)
                rw [if_pos (by rfl)]
                refine HG2.out.wp (.tmp 64) (.tmp 67) 40 rfl Try.underlying40 t0 hi0 (.agg #[.int .i64 no.co, .int .i64 no.ce]) hz0 16 hz1 hz2 rfl (by decide) (by rfl) (_) (0) (_) (cells ((rsT cs k).drop k2)) (by (try simp only [Act.eval, Act.put]); rfl) (hDl) (HDr.out _ _ HG2.out.b) (cells_one _) (by unfold maxLen; omega) (by omega) ?_
                intro v3 w3 hg hgr
                have HG3 := Lib.hid hg
                have HR3 := Lib.hid hgr
                clear hg hgr
                (try simp only [Act.put, List.setIfInBounds_toArray, List.set_cons_zero, List.set_cons_succ])
                refine hK.out _ _ (HS8.out _ (HG3.out.b)) (fun _ => ?_)
                clear hK K
                refine wpAnyH_take (i := 18) (oi := _) (v := ?_) rfl (by kernel_rfl) (by kernel_rfl) (by kernel_rfl) (fun _ _ _ h => h) (Or.inl ⟨by rfl, ?_⟩) (by assumption) ?_; rotate_left; focus (intro W hSw; (try dsimp only at hSw); go_simp; (first | done | with_reducible rfl))
                (try simp only [List.getElem_toArray, List.getElem_cons_succ, List.getElem_cons_zero, Act.put, List.setIfInBounds_toArray, List.set_cons_zero, List.set_cons_succ])
                refine wpAnyH_done (by kernel_rfl) ?_ _
                refine NoPanic.normal ?_
                (try simp only [List.getElem_toArray, List.getElem_cons_succ, List.getElem_cons_zero, Act.put, List.setIfInBounds_toArray, List.set_cons_zero, List.set_cons_succ])
                go_wp2
                go_meet
                exact ⟨ins_some HG3.out HB3.out.size HRl.out hk2l (by omega) HK2e.out, HB3.out.trans (HG3.out.b.mono HB3.out.size), HK3.out.later HG3.out.b⟩
          case rest =>
          obtain ⟨ho6, hB6, hK6⟩ := hcut
          have HB6 := Lib.hid hB6
          have HK6 := Lib.hid hK6
          rw [← HS.out] at ho6
          obtain ⟨a6, cp6, rfl, hr6, -⟩ := ho6.slice
          have HO6 := Lib.hid ho6
          have hln : (rcS cs x y.co).length ≤ 11 := by rw [HS.out, ins_len, HRl.out]; omega
          have c7 := Lib.hid (show Calls Try.prog 98 #[.agg #[.int .i64 m.W, .int .i64 m.H, .slice a m.R.length ca, .slice b m.C.length cb], .slice a6 (rcS cs x y.co).length cp6] wc fun e w' => e = .returned (.bool g2) ∧ Below wc.heap.size wc w' from by
            have h := spec_good m (rcS cs x y.co) (by omega) hR hC a b ca cb a6 cp6 wc ⟨RowAt.below HR.out.r HB6.out, RowAt.below HR.out.c HB6.out, hr6⟩
            rw [HG2.out] at h
            exact h)
          clear ho6 hB6 hK6 hr6 hln HB3 HK3 HR3
          obtain ⟨p0, p1, p2, p3, -⟩ := MapS.Blk.four HK6.out
          go_wp2_with fail
          refine c7.out.mono ?_
          rintro e w7 ⟨rfl, hb⟩
          have HB7 := Lib.hid (HB6.out.trans (hb.mono HB6.out.size))
          have HP7 := Lib.hid (HO6.out.below hb)
          have hsz7 := HB7.out.size
          clear hb
          cases g2 with
          | false =>
            have h1 : ok = false := HO2.out
            obtain rfl := HBAD.out h1
            subst h1
            go_wp2
            go_ret2
            exact ⟨_, rfl, own_none w7 w.heap.size hsz7, HB7.out.alloc hsz7 _⟩
          | true =>
            have h1 : ok = true := HO2.out
            have h2 : rcS cs x y.co = z := by rw [← HZ.out]; unfold rcL; rw [HO.out, h1]; rfl
            rw [h2] at HP7 ⊢
            subst h1
            clear h2
            go_wp2
            go_ret2
            exact ⟨_, rfl, HP7.out, HB7.out⟩

/-- RecodeControl: both. -/
theorem recode (m : Mp) (hR : m.R.length ≤ maxLen) (hC : m.C.length ≤ maxLen) (cs : List Ct) (hf : ∀ i, i < cs.length → Is (at_ cs i)) (hl : cs.length ≤ 1048576) (x : Int) (hx : (Lit.int IntKind.i64 x).wf = true) (c : Int) (hc : (Lit.int IntKind.i64 c).wf = true) : ∃ (zs : List Ct) (ok : Bool), zs.length ≤ 1048576 ∧
    (∀ a b ca cb ad cap w, IRow w a m.R → IRow w b m.C → cs.length ≤ cap → Row w ad cs → Calls Try.prog 42 #[.agg #[.int .i64 m.W, .int .i64 m.H, .slice a m.R.length ca, .slice b m.C.length cb], .slice ad cs.length cap, .int .i64 x, .int .i64 c] w fun e w' => ∃ v, e = .returned (.tuple #[v, .bool ok]) ∧ Own w' w.heap.size v zs ∧ Below w.heap.size w w') ∧
    (∀ a b ca cb ad cap w, IRow w a m.R → IRow w b m.C → cs.length ≤ cap → Row w ad cs → Calls Try.prog 41 #[.agg #[.int .i64 m.W, .int .i64 m.H, .slice a m.R.length ca, .slice b m.C.length cb], .slice ad cs.length cap, .int .i64 x, .int .i64 c] w fun e w' => ∃ v, e = .returned (.tuple #[v, .bool ok]) ∧ Own w' w.heap.size v zs ∧ Below w.heap.size w w') :=
  ⟨_, _, Nat.le_trans (rc_len m cs x c) (by omega), fun a b ca cb ad cap w h1 h2 hc h3 => recode_spec m cs hl hR hC x c a b ca cb ad cap w hc ⟨h1, h2, h3⟩, fun a b ca cb ad cap w h1 h2 hc h3 => recode_impl m cs hl hR hC x c a b ca cb ad cap w hc ⟨h1, h2, h3⟩⟩

end Go.Proofs.Ytfpfnnindlfgfaa.CoS
