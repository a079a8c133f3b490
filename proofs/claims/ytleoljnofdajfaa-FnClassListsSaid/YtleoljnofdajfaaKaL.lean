/- FillClasses: what it answers; the program. -/
import Derived.Test.YtleoljnofdajfaaKaH
import Derived.Test.YtleoljnofdajfaaAr100
namespace Go.Proofs.Ytleoljnofdajfaa.KaL
open Go.RowKit Lb Bk InA KlI KaA KaG KaD KaF KaH
open KlK (at_ at_lt no Row Own cells blk_cells)
open IntS (OwnI iInfo)
set_option linter.unusedSimpArgs false
set_option linter.unusedVariables false

/-- How often a number stands in a list. -/
def cn (ids : List Int) (x : Int) : Nat := (ids.filter (fun z => z == x)).length
theorem cn_le (ids : List Int) (x : Int) : cn ids x ≤ ids.length := List.length_filter_le _ _
theorem cn_snoc (ids : List Int) (y x : Int) : cn (ids ++ [y]) x = cn ids x + if y = x then 1 else 0 := by
  unfold cn
  rw [List.filter_append, List.length_append]
  by_cases h : y = x
  · simp [h]
  · simp [h]
/-- Whether a Class admits the runner and is not full; the Class that the runner gets. -/
def fitB (ids : List Int) (r : Ru) (c : Kl) : Bool := admR c r && decide ((cn ids c.id : Int) < c.mo)
def pkO (rs : List Kl) (ids : List Int) (r : Ru) : Option Kl := rs.find? (fitB ids r)
def pkI (rs : List Kl) (ids : List Int) (r : Ru) : Int := ((pkO rs ids r).map (·.id)).getD 0
theorem pk_bd {rs : List Kl} (hg : goodB rs = true) (ids : List Int) (r : Ru) : 0 ≤ pkI rs ids r ∧ pkI rs ids r ≤ 99 := by
  unfold pkI
  cases h : pkO rs ids r with
  | none => exact ⟨Int.le_refl _, by decide⟩
  | some c =>
    have hm := List.mem_of_find?_eq_some h
    obtain ⟨j, hj, rfl⟩ := List.mem_iff_getElem.1 hm
    have := ok_id (good_ok hg hj)
    rw [at_lt hj] at this
    exact ⟨by show 0 ≤ (rs[j]).id; omega, this.2⟩
/-- On the list of those that admit. -/
theorem pk_fil (rs : List Kl) (ids : List Int) (r : Ru) : pkO rs ids r = (rs.filter (fun c => admR c r)).find? (fun c => decide ((cn ids c.id : Int) < c.mo)) := by
  unfold pkO fitB
  rw [List.find?_filter]
  refine congrArg (fun p => rs.find? p) (funext fun c => ?_)
  cases admR c r <;> simp
theorem pk_at {rs : List Kl} {ids : List Int} {r : Ru} {fs : List Kl} (hf : rs.filter (fun c => admR c r) = fs) {k : Nat} (hk : k < fs.length) (h : ∀ j, j < k → decide ((cn ids (at_ fs j).id : Int) < (at_ fs j).mo) = false) (h1 : decide ((cn ids (at_ fs k).id : Int) < (at_ fs k).mo) = true) : pkI rs ids r = (at_ fs k).id := by
  unfold pkI
  rw [pk_fil, hf, KlK.find_at (p := fun c => decide ((cn ids c.id : Int) < c.mo)) hk h h1]
  rfl
theorem pk_no {rs : List Kl} {ids : List Int} {r : Ru} {fs : List Kl} (hf : rs.filter (fun c => admR c r) = fs) (h : ∀ j, j < fs.length → decide ((cn ids (at_ fs j).id : Int) < (at_ fs j).mo) = false) : pkI rs ids r = 0 := by
  unfold pkI
  rw [pk_fil, hf, KlK.find_no (p := fun c => decide ((cn ids c.id : Int) < c.mo)) h]
  rfl
/-- All of them, one after the other. -/
def filL (rs : List Kl) (us : List Ru) : List Int := us.foldl (fun ids r => ids ++ [pkI rs ids r]) []
theorem fil_snoc (rs : List Kl) (us : List Ru) (r : Ru) : filL rs (us ++ [r]) = filL rs us ++ [pkI rs (filL rs us) r] := by
  unfold filL
  rw [List.foldl_append]
  rfl
theorem fil_next {rs : List Kl} {us : List Ru} {k : Nat} (hk : k < us.length) : filL rs (us.take (k + 1)) = filL rs (us.take k) ++ [pkI rs (filL rs (us.take k)) (RuK.at_ us k)] := by
  rw [List.take_succ_eq_append_getElem hk, fil_snoc, ← RuK.at_lt hk]
theorem fil_leng (rs : List Kl) (us : List Ru) : ∀ k, k ≤ us.length → (filL rs (us.take k)).length = k
  | 0, _ => by simp [filL]
  | k + 1, h => by rw [fil_next (by omega), List.length_append, fil_leng rs us k (by omega)]; rfl
/-- What FillClasses answers. -/
def fcB (rs : List Kl) (us : List Ru) : Bool := goodB rs && RuA.goodB us
def fcL (rs : List Kl) (us : List Ru) : List Int := if fcB rs us then filL rs us else []
theorem fc_len (rs : List Kl) (us : List Ru) : (fcL rs us).length ≤ us.length := by
  unfold fcL
  split
  · have := fil_leng rs us us.length (Nat.le_refl _)
    rw [List.take_length] at this
    omega
  · exact Nat.zero_le _
theorem own_far {w : World} {base k : Nat} {e t : TypeId} {v : Value} {n g i : Nat} {xs : List Value} {cs : Array Value} (h : w.ownsRow base e k v n xs) (hb : Blk w g t cs) (hne : e ≠ t) (u : Value) : (w.setCell ⟨g, i, none⟩ u).ownsRow base e k v n xs := by
  refine ⟨h.1, ?_⟩
  rcases h.2 with h2 | ⟨g', cap, cur, hv, hg, hh, r⟩
  · exact .inl h2
  · refine .inr ⟨g', cap, cur, hv, hg, ?_, r⟩
    refine (Below.heap_setCell w _ u g' ?_).trans hh
    rintro rfl
    have h3 := hb
    unfold Blk at h3
    rw [hh] at h3
    injection h3 with h3
    injection h3 with _ h4
    exact hne h4
theorem upd_cn (ids : List Int) (c : Nat) : Ar100.cs (Ar100.upd (fun j => (cn ids (j : Int) : Int)) c ((cn ids (c : Int) : Int) + 1)) = Ar100.cs (fun j => (cn (ids ++ [(c : Int)]) (j : Int) : Int)) := by
  refine Ar100.cs_congr fun j _ => ?_
  unfold Ar100.upd
  rw [cn_snoc]
  by_cases h : j = c
  · subst h; simp
  · rw [if_neg h, if_neg (by omega)]; simp
theorem zero_cs : Try.zeroCells58 = Ar100.cs fun _ => 0 := by rfl
theorem us_bo {us : List Ru} (h : RuA.goodB us = true) {j : Nat} (hj : j < us.length) : 1920 ≤ (RuK.at_ us j).bo ∧ (RuK.at_ us j).bo ≤ 2020 := RuE.good_bo h hj

set_option maxRecDepth 20000 in
set_option maxHeartbeats 8000000 in
theorem fill_impl (rs : List Kl) (hf : ∀ i, i < rs.length → KlK.Is (at_ rs i)) (hl : rs.length ≤ 1048576) (us : List Ru) (hfu : ∀ i, i < us.length → RuK.Is (RuK.at_ us i)) (hlu : us.length ≤ 1048576) (a : Option Addr) (cap : Nat) (au : Option Addr) (capu : Nat) (w : World) (hc : rs.length ≤ cap) (hr : Row w a rs) (hcu : us.length ≤ capu) (hru : RuK.Row w au us) :
    Calls Try.prog 6 #[.slice a rs.length cap, .slice au us.length capu] w (NPost w (fcL rs us) (fcB rs us)) := by
  obtain ⟨t0, hi0, hz0, hz1, hz2⟩ := info_parts iInfo
  have H := Lib.hid hr
  have HU := Lib.hid hru
  have hml : rs.length ≤ maxLen := by unfold maxLen; omega
  have hmu : us.length ≤ maxLen := by unfold maxLen; omega
  obtain ⟨g, hg⟩ : ∃ g, goodB rs = g := ⟨_, rfl⟩
  have c1 := Lib.hid (fun w hr => hg ▸ KaA.impl_any a cap rs w hc hr hf hml)
  have HG := Lib.hid hg
  obtain ⟨v, hv⟩ : ∃ v, RuA.goodB us = v := ⟨_, rfl⟩
  have c2 := Lib.hid (fun w hr => hv ▸ RuA.impl_any au capu us w hcu hr hfu hmu)
  have HV := Lib.hid hv
  obtain ⟨ok, hok⟩ : ∃ ok, fcB rs us = ok := ⟨_, rfl⟩
  obtain ⟨zs, hzs⟩ : ∃ zs, fcL rs us = zs := ⟨_, rfl⟩
  have HO := Lib.hid hok
  have HZ := Lib.hid hzs
  have c3 := Lib.hid (fun r (h : 1920 ≤ r.bo ∧ r.bo ≤ 2020) w hr => admitting_any r h.1 h.2 rs hl a cap w hr)
  rw [hok, hzs]
  obtain ⟨n, hn⟩ : ∃ n, us.length = n := ⟨_, rfl⟩
  have HN := Lib.hid hn
  rw [hn] at hlu c2 ⊢
  clear hr hg hok hzs hf hv hfu hn hcu hru hc hml hmu
  go_enter Try.func6, Try.ntmps6
  go_wp2_with fail
  refine (c1.out _ H.out).mono ?_
  rintro e w1 ⟨rfl, hb⟩
  have HB1 := Lib.hid hb
  clear hb
  have hsz := HB1.out.size
  cases g with
  | false =>
    have h1 : ok = false := by rw [← HO.out]; unfold fcB; rw [HG.out]; rfl
    have h2 : zs = [] := by rw [← HZ.out]; unfold fcL fcB; rw [HG.out]; rfl
    subst h1 h2
    go_wp2
    go_ret2
    exact ⟨_, rfl, own_none w1 w.heap.size hsz, HB1.out.alloc hsz _⟩
  | true =>
  go_wp2_with fail
  refine (c2.out _ (HU.out.later HB1.out)).mono ?_
  rintro e w2 ⟨rfl, hb⟩
  have HB2 := Lib.hid (HB1.out.trans (hb.mono hsz))
  clear hb HB1 hsz
  have hsz := HB2.out.size
  cases v with
  | false =>
    have h1 : ok = false := by rw [← HO.out]; unfold fcB; rw [HV.out]; simp
    have h2 : zs = [] := by rw [← HZ.out]; unfold fcL fcB; rw [HV.out]; simp
    subst h1 h2
    go_wp2
    go_ret2
    exact ⟨_, rfl, own_none w2 w.heap.size hsz, HB2.out.alloc hsz _⟩
  | true =>
    have h1 : ok = true := by rw [← HO.out]; unfold fcB; rw [HG.out, HV.out]; rfl
    have h2 := Lib.hid (show filL rs us = zs from by rw [← HZ.out]; unfold fcL fcB; rw [HG.out, HV.out]; rfl)
    subst h1
    have hn10 := RuE.good_len HV.out
    rw [HN.out] at hn10
    have HS3 := Lib.hid (show IntK.Gr w (.slice (some ⟨w2.heap.size, 0, none⟩) 0 0) [] (w2.alloc (.cells #[] 3)) from ⟨HB2.out.alloc hsz _, own_none w2 w.heap.size hsz⟩)
    have HS4 := Lib.hid (HS3.out.alloc (.cells (Ar100.cs fun _ => 0) 58))
    have HA4 := Lib.hid (show Blk ((w2.alloc (.cells #[] 3)).alloc (.cells (Ar100.cs fun _ => 0) 58)) (w2.heap.size + 1) 58 (Ar100.cs fun j => (cn [] (j : Int) : Int)) from by simpa [cn] using Blk.new (w2.alloc (.cells #[] 3)) 58 (Ar100.cs fun _ => 0))
    have hG0 : w.heap.size ≤ w2.heap.size + 1 := by omega
    clear HB2 HS3 c1 c2 hsz
    go_wp2_with fail
    obtain ⟨G, hGq⟩ : ∃ G, w2.heap.size + 1 = G := ⟨_, rfl⟩
    rw [hGq] at HA4 hG0
    try rw [hGq]
    have HGq := Lib.hid hGq
    clear hGq
    go_loopg [25, 6] n (fun gk i v wr => ∃ k : Nat, k ≤ n ∧ gk = n - k ∧ i = .int .i64 k ∧ IntK.Gr w v (filL rs (us.take k)) wr ∧ Blk wr G 58 (Ar100.cs fun j => (cn (filL rs (us.take k)) (j : Int) : Int)))
    case atStart => exact ⟨0, Nat.zero_le _, rfl, rfl, by rw [zero_cs]; exact HS4.out, by rw [zero_cs]; exact HA4.out⟩
    case round =>
      clear HS4 HA4
      obtain ⟨k, hk, hgk, rfl, hS, hA⟩ := hrel
      have HS := Lib.hid hS
      have HA := Lib.hid hA
      clear hS hA
      by_cases hlt : k < n
      · obtain ⟨bu, ou, rfl, k0, k1, k2, k3, k4, k5⟩ := (HU.out.later HS.out.b).cells (i := k) (by rw [HN.out]; exact hlt)
        obtain ⟨x, hx⟩ : ∃ x, RuK.at_ us k = x := ⟨_, rfl⟩
        have HXB := Lib.hid (us_bo HV.out (j := k) (by rw [HN.out]; exact hlt))
        have HNX := Lib.hid (fil_next (rs := rs) (us := us) (k := k) (by rw [HN.out]; exact hlt))
        have HLk := Lib.hid (fil_leng rs us k (by rw [HN.out]; omega))
        rw [hx] at k0 k1 k2 k3 k4 k5 HXB HNX
        obtain ⟨ids, hids⟩ : ∃ ids, filL rs (us.take k) = ids := ⟨_, rfl⟩
        rw [hids] at HNX HLk HS HA
        obtain ⟨fs, hfs⟩ : ∃ fs, rs.filter (fun c => admR c x) = fs := ⟨_, rfl⟩
        have HFs := Lib.hid hfs
        have hfl : fs.length ≤ 8 := by rw [← hfs]; have := fil_len (fun c => admR c x) rs; have := good_len HG.out; omega
        have HQ := Lib.hid (show ∀ i, i < fs.length → okK (at_ fs i) = true from by
          rw [← hfs]
          intro i hi
          rw [at_lt hi]
          have h2 := (List.mem_filter.1 (List.getElem_mem hi)).1
          obtain ⟨j, hj, e⟩ := List.mem_iff_getElem.1 h2
          rw [← e, ← at_lt hj]
          exact good_ok HG.out hj)
        have C3 := Lib.hid (fun w hr => hfs ▸ c3.out x HXB.out w hr)
        have HS2 := Lib.hid (HS.out.alloc (.cells #[.int .i64 x.id, .string x.nm, .string x.cl, .int .i64 x.bo, .bool x.wo, .int .i64 x.ca] 37))
        have HA2 := Lib.hid (HA.out.alloc (.cells #[.int .i64 x.id, .string x.nm, .string x.cl, .int .i64 x.bo, .bool x.wo, .int .i64 x.ca] 37))
        have HK2 := Lib.hid (Blk.new wr 37 #[.int .i64 x.id, .string x.nm, .string x.cl, .int .i64 x.bo, .bool x.wo, .int .i64 x.ca])
        clear hx hids hfs HS HA
        go_upto_region 9 with (fail)
        obtain ⟨⟨q0, q1, q2, q3, q4, q5⟩, -⟩ := RuK.blk_cells HK2.out
        generalize wr.alloc (.cells #[.int .i64 x.id, .string x.nm, .string x.cl, .int .i64 x.bo, .bool x.wo, .int .i64 x.ca] 37) = wz at *
        clear k0 k1 k2 k3 k4 k5
        go_wp2_with fail
        refine (C3.out _ (H.out.later HS2.out.b)).mono ?_
        rintro e w4 ⟨v4, rfl, ho, hb⟩
        obtain ⟨fa, fc, rfl, hrow, -⟩ := ho.slice
        have HF4 := Lib.hid hrow
        have HS4 := Lib.hid (HS2.out.below hb)
        have HA4 := Lib.hid (HA2.out.later hb)
        clear ho hb hrow HS2 HA2 HK2 q0 q1 q2 q3 q4 q5
        obtain ⟨m, hm⟩ : ∃ m, fs.length = m := ⟨_, rfl⟩
        have HM := Lib.hid hm
        rw [hm] at hfl ⊢
        clear hm
        go_wp2_with fail
        obtain ⟨z0, hz0⟩ : ∃ z : Nat, z = 0 := ⟨_, rfl⟩
        have hz0l : z0 < 100 := by omega
        have HZ0 := Lib.hid hz0
        clear hz0
        go_loopw [33, 10] (fun i d wq => ∃ q : Nat, q ≤ m ∧ i = .int .i64 q ∧ d = .int .i64 z0 ∧ (∀ j, j < q → decide ((cn ids (at_ fs j).id : Int) < (at_ fs j).mo) = false) ∧ Below w4.heap.size w4 wq) (fun i _ _ => m - (intOf i).toNat)
        case atStart => exact ⟨0, Nat.zero_le _, rfl, (by rw [HZ0.out]; rfl), (fun j hj => absurd hj (Nat.not_lt_zero _)), Below.refl _ _⟩
        case round =>
          obtain ⟨q, hq, rfl, rfl, hno, hB⟩ := hrel
          have HNo := Lib.hid hno
          have HB := Lib.hid hB
          clear hno hB
          by_cases hlt2 : q < m
          · obtain ⟨b, off, rfl, c0, c1, c2, c3, c4, c5, c6, c7⟩ := (HF4.out.later HB.out).cells (i := q) (by rw [HM.out]; exact hlt2)
            obtain ⟨y, hy⟩ : ∃ y, at_ fs q = y := ⟨_, rfl⟩
            rw [hy] at c0 c1 c2 c3 c4 c5 c6 c7
            have hid := ok_id (HQ.out q (by rw [HM.out]; exact hlt2))
            rw [hy] at hid
            obtain ⟨p, hp⟩ : ∃ p : Nat, y.id = (p : Int) := ⟨y.id.toNat, by omega⟩
            have HY := Lib.hid hy
            have HPq := Lib.hid hp
            have hp1 : p < 100 := by omega
            have hp2 : (p : Int) < 100 := by omega
            have hp3 : (0 : Int) ≤ (p : Int) := by omega
            have HS5 := Lib.hid ((HS4.out.below HB.out).alloc (.cells #[.int .i64 y.id, .string y.nm, .int .i64 y.lo, .int .i64 y.hi, .bool y.wo, .bool y.me, .int .i64 y.co, .int .i64 y.mo] 33))
            have HA5 := Lib.hid ((HA4.out.later HB.out).alloc (.cells #[.int .i64 y.id, .string y.nm, .int .i64 y.lo, .int .i64 y.hi, .bool y.wo, .bool y.me, .int .i64 y.co, .int .i64 y.mo] 33))
            have HB5 := Lib.hid (HB.out.alloc HB.out.size (.cells #[.int .i64 y.id, .string y.nm, .int .i64 y.lo, .int .i64 y.hi, .bool y.wo, .bool y.me, .int .i64 y.co, .int .i64 y.mo] 33))
            have HK5 := Lib.hid (Blk.new wr 33 #[.int .i64 y.id, .string y.nm, .int .i64 y.lo, .int .i64 y.hi, .bool y.wo, .bool y.me, .int .i64 y.co, .int .i64 y.mo])
            obtain ⟨z, hz⟩ : ∃ z, cn ids (p : Int) = z := ⟨_, rfl⟩
            have hzl := cn_le ids (p : Int)
            rw [hz, HLk.out] at hzl
            have HZq := Lib.hid hz
            obtain ⟨x0, x1⟩ := Ar100.cell HA5.out hp1
            rw [hz] at x0
            clear hy hp hid hz
            go_upto_region 12 with (fail)
            obtain ⟨⟨e0, e1, e2, e3, e4, e5, e6, e7⟩, -⟩ := blk_cells HK5.out
            generalize wr.alloc (.cells #[.int .i64 y.id, .string y.nm, .int .i64 y.lo, .int .i64 y.hi, .bool y.wo, .bool y.me, .int .i64 y.co, .int .i64 y.mo] 33) = wx at *
            rw [HPq.out] at e0
            clear c0 c1 c2 c3 c4 c5 c6 c7
            have hu : undef = Value.tuple #[] := rfl
            by_cases hfree : (z : Int) < y.mo
            · have hd : decide ((z : Int) < y.mo) = true := decide_eq_true hfree
              have HPK := Lib.hid (show pkI rs ids x = (p : Int) from by
                rw [pk_at HFs.out (k := q) (by rw [HM.out]; exact hlt2) HNo.out (by rw [HY.out, HPq.out, HZq.out]; exact hd), HY.out, HPq.out])
              clear hfree
              refine wp_region_noPanic ?_
              refine wp_region_held_drew (S := (fun Wx : World => Wx.cell? ⟨wr.heap.size, 0, none⟩ = some (.int .i64 p) ∧ Wx.cell? ⟨wr.heap.size, 7, none⟩ = some (.int .i64 y.mo) ∧ Wx.cell? ⟨G, p, none⟩ = some (.int .i64 z))) (by kernel_rfl) ⟨e0, e7, x0⟩ (fun hHeld => ?_)
              refine wpAnyH_take (i := 0) (oi := _) (v := ?_) rfl (by kernel_rfl) (by kernel_rfl) (by kernel_rfl) (fun _ _ _ h => h) (Or.inl ⟨by rfl, ?_⟩) (by assumption) ?_; rotate_left; focus (intro W hSw; (try dsimp only at hSw); go_simp; (first | done | with_reducible rfl))
              (try simp only [List.getElem_toArray, List.getElem_cons_succ, List.getElem_cons_zero, Act.put, List.setIfInBounds_toArray, List.set_cons_zero, List.set_cons_succ])
              refine wpAnyH_take (i := 1) (oi := _) (v := ?_) rfl (by kernel_rfl) (by kernel_rfl) (by kernel_rfl) (fun _ _ _ h => h) (Or.inl ⟨by rfl, ?_⟩) (by assumption) ?_; rotate_left; focus (intro W hSw; (try dsimp only at hSw); go_simp; (first | done | with_reducible rfl))
              (try simp only [List.getElem_toArray, List.getElem_cons_succ, List.getElem_cons_zero, Act.put, List.setIfInBounds_toArray, List.set_cons_zero, List.set_cons_succ])
              refine wpAnyH_take (i := 2) (oi := _) (v := ?_) rfl (by kernel_rfl) (by kernel_rfl) (by kernel_rfl) (fun _ _ _ h => h) (Or.inl ⟨by rfl, ?_⟩) (by assumption) ?_; rotate_left; focus (intro W hSw; (try dsimp only at hSw); go_simp; (first | done | with_reducible rfl))
              (try simp only [List.getElem_toArray, List.getElem_cons_succ, List.getElem_cons_zero, Act.put, List.setIfInBounds_toArray, List.set_cons_zero, List.set_cons_succ])
              refine wpAnyH_take (i := 3) (oi := _) (v := ?_) rfl (by kernel_rfl) (by kernel_rfl) (by kernel_rfl) (fun _ _ _ h => h) (Or.inl ⟨by rfl, ?_⟩) (by assumption) ?_; rotate_left; focus (intro W hSw; (try dsimp only at hSw); go_simp; (first | done | with_reducible rfl))
              (try simp only [List.getElem_toArray, List.getElem_cons_succ, List.getElem_cons_zero, Act.put, List.setIfInBounds_toArray, List.set_cons_zero, List.set_cons_succ])
              refine wpAnyH_take (i := 4) (oi := _) (v := ?_) rfl (by kernel_rfl) (by kernel_rfl) (by kernel_rfl) (fun _ _ _ h => h) (Or.inl ⟨by rfl, ?_⟩) (by assumption) ?_; rotate_left; focus (intro W hSw; (try dsimp only at hSw); go_simp; (first | done | with_reducible rfl))
              (try simp only [List.getElem_toArray, List.getElem_cons_succ, List.getElem_cons_zero, Act.put, List.setIfInBounds_toArray, List.set_cons_zero, List.set_cons_succ])
              refine wpAnyH_take (i := 5) (oi := _) (v := ?_) rfl (by kernel_rfl) (by kernel_rfl) (by kernel_rfl) (fun _ _ _ h => h) (Or.inl ⟨by rfl, ?_⟩) (by assumption) ?_; rotate_left; focus (intro W hSw; (try dsimp only at hSw); go_simp; (first | done | with_reducible rfl))
              (try simp only [List.getElem_toArray, List.getElem_cons_succ, List.getElem_cons_zero, Act.put, List.setIfInBounds_toArray, List.set_cons_zero, List.set_cons_succ])
              refine wpAnyH_take (i := 6) (oi := _) (v := ?_) rfl (by kernel_rfl) (by kernel_rfl) (by kernel_rfl) (fun _ _ _ h => h) (Or.inl ⟨by rfl, ?_⟩) (by assumption) ?_; rotate_left; focus (intro W hSw; (try dsimp only at hSw); go_simp; (first | done | with_reducible rfl))
              (try simp only [List.getElem_toArray, List.getElem_cons_succ, List.getElem_cons_zero, Act.put, List.setIfInBounds_toArray, List.set_cons_zero, List.set_cons_succ])
              refine wpAnyH_done (by kernel_rfl) ?_ _
              refine NoPanic.normal ?_
              (try simp only [List.getElem_toArray, List.getElem_cons_succ, List.getElem_cons_zero, Act.put, List.setIfInBounds_toArray, List.set_cons_zero, List.set_cons_succ])
              clear hu
              have HS6 := Lib.hid (HS5.out.below (Below.refl _ _).drew)
              have HA6 := Lib.hid HA5.out.drew
              have HK6 := Lib.hid HK5.out.drew
              clear hHeld HS5 HA5 HB5 HK5 x0 x1 e0 e1 e2 e3 e4 e5 e6 e7
              generalize wx.drew = wd at *
              have e0 : wd.cell? ⟨wr.heap.size, 0, none⟩ = some (.int .i64 p) := by have h := (blk_cells HK6.out).1.1; rwa [HPq.out] at h
              have HSx := Lib.hid (show IntK.Gr w _ ids wd from HS6.out)
              have HAx := Lib.hid (show Blk wd G 58 _ from HA6.out)
              obtain ⟨y0, y1⟩ := Ar100.cell HAx.out (j := p) hp1
              obtain ⟨zz, hzz⟩ : ∃ z, cn ids ((p : Nat) : Int) = z := ⟨_, rfl⟩
              have hzzl := cn_le ids ((p : Nat) : Int)
              rw [hzz, HLk.out] at hzzl
              rw [hzz] at y0
              have HZZ := Lib.hid hzz
              clear hzz
              have HAn := Lib.hid (show Blk (World.setCell wd ⟨G, p, none⟩ (.int .i64 ((zz : Int) + 1))) G 58 (Ar100.cs fun j => (cn (ids ++ [((p : Nat) : Int)]) (j : Int) : Int)) from by
                have h := Ar100.put HAx.out p ((zz : Int) + 1)
                have e : ((zz : Int) + 1) = (cn ids ((p : Nat) : Int) : Int) + 1 := by rw [HZZ.out]
                rw [e] at h ⊢
                rw [upd_cn] at h
                exact h)
              have HSn := Lib.hid (show IntK.Gr w _ ids (World.setCell wd ⟨G, p, none⟩ (.int .i64 ((zz : Int) + 1))) from ⟨HSx.out.b.setCell (p := ⟨G, p, none⟩) hG0 _, own_far HSx.out.own HAx.out (by decide) _⟩)
              obtain ⟨wy, hwy⟩ : ∃ wy, World.setCell wd ⟨G, p, none⟩ (.int .i64 ((zz : Int) + 1)) = wy := ⟨_, rfl⟩
              rw [hwy] at HAn HSn
              have hx1 : ((p : Nat) : Int) < 100 := by omega
              have hx0 : (0 : Int) ≤ ((p : Nat) : Int) := by omega
              have hown := HSn.out.own.below ((Below.refl _ _).alloc (Nat.le_refl _) (.cells #[.int .i64 ((p : Nat) : Int)] 3))
              unfold OwnI at hown
              rw [HLk.out] at hown
              have HTa := Lib.hid (HSn.out.alloc (.cells #[.int .i64 ((p : Nat) : Int)] 3))
              have HAa := Lib.hid (HAn.out.alloc (.cells #[.int .i64 ((p : Nat) : Int)] 3))
              have hsz := HSn.out.b.size
              have HWy := Lib.hid hwy
              clear hwy HSx HAx
              go_upto_region 16 with (fail)
              rw [HWy.out]
              go_wp2_with (at_builtin; (refine wpList_append_own _ rfl (.tmp 52) (.tmp 54) 28 rfl w.heap.size 3 t0 (.int .i64 0) 1 8 Try.underlying28 hi0 hz0 hz1 hz2 rfl (by decide) _ k _ rfl hown ⟨_, 0, none⟩ 1 1 [.int .i64 ((p : Nat) : Int)] rfl rfl (cell_one_new _ _ _) (by simp [Value.oneCell']) (by unfold maxLen; omega) (by omega) (by simp; omega) ?_; intro v' w3 hown3 hgr3 _; have HAP := Lib.hid (blk_keep HTa.out.own HAa.out (by decide) hgr3); have HP3 := Lib.hid (HTa.out.put HLk.out hgr3 hown3); clear hown3 hgr3))
              go_roundg (n - (k + 1))
              case measure => omega
              case rel => exact ⟨k + 1, by omega, rfl, by go_num, by rw [HNX.out, HPK.out]; exact HP3.out, by rw [HNX.out, HPK.out]; exact HAP.out⟩
            · have hd : decide ((z : Int) < y.mo) = false := decide_eq_false hfree
              have HNn := Lib.hid (show decide ((cn ids (at_ fs q).id : Int) < (at_ fs q).mo) = false from by rw [HY.out, HPq.out, HZq.out]; exact hd)
              clear hfree
              refine wp_region_noPanic ?_
              refine wp_region_held_drew (S := (fun Wx : World => Wx.cell? ⟨wr.heap.size, 0, none⟩ = some (.int .i64 p) ∧ Wx.cell? ⟨wr.heap.size, 7, none⟩ = some (.int .i64 y.mo) ∧ Wx.cell? ⟨G, p, none⟩ = some (.int .i64 z))) (by kernel_rfl) ⟨e0, e7, x0⟩ (fun hHeld => ?_)
              refine wpAnyH_take (i := 0) (oi := _) (v := ?_) rfl (by kernel_rfl) (by kernel_rfl) (by kernel_rfl) (fun _ _ _ h => h) (Or.inl ⟨by rfl, ?_⟩) (by assumption) ?_; rotate_left; focus (intro W hSw; (try dsimp only at hSw); go_simp; (first | done | with_reducible rfl))
              (try simp only [List.getElem_toArray, List.getElem_cons_succ, List.getElem_cons_zero, Act.put, List.setIfInBounds_toArray, List.set_cons_zero, List.set_cons_succ])
              refine wpAnyH_take (i := 1) (oi := _) (v := ?_) rfl (by kernel_rfl) (by kernel_rfl) (by kernel_rfl) (fun _ _ _ h => h) (Or.inl ⟨by rfl, ?_⟩) (by assumption) ?_; rotate_left; focus (intro W hSw; (try dsimp only at hSw); go_simp; (first | done | with_reducible rfl))
              (try simp only [List.getElem_toArray, List.getElem_cons_succ, List.getElem_cons_zero, Act.put, List.setIfInBounds_toArray, List.set_cons_zero, List.set_cons_succ])
              refine wpAnyH_take (i := 2) (oi := _) (v := ?_) rfl (by kernel_rfl) (by kernel_rfl) (by kernel_rfl) (fun _ _ _ h => h) (Or.inl ⟨by rfl, ?_⟩) (by assumption) ?_; rotate_left; focus (intro W hSw; (try dsimp only at hSw); go_simp; (first | done | with_reducible rfl))
              (try simp only [List.getElem_toArray, List.getElem_cons_succ, List.getElem_cons_zero, Act.put, List.setIfInBounds_toArray, List.set_cons_zero, List.set_cons_succ])
              refine wpAnyH_take (i := 3) (oi := _) (v := ?_) rfl (by kernel_rfl) (by kernel_rfl) (by kernel_rfl) (fun _ _ _ h => h) (Or.inl ⟨by rfl, ?_⟩) (by assumption) ?_; rotate_left; focus (intro W hSw; (try dsimp only at hSw); go_simp; (first | done | with_reducible rfl))
              (try simp only [List.getElem_toArray, List.getElem_cons_succ, List.getElem_cons_zero, Act.put, List.setIfInBounds_toArray, List.set_cons_zero, List.set_cons_succ])
              refine wpAnyH_take (i := 4) (oi := _) (v := ?_) rfl (by kernel_rfl) (by kernel_rfl) (by kernel_rfl) (fun _ _ _ h => h) (Or.inl ⟨by rfl, ?_⟩) (by assumption) ?_; rotate_left; focus (intro W hSw; (try dsimp only at hSw); go_simp; (first | done | with_reducible rfl))
              (try simp only [List.getElem_toArray, List.getElem_cons_succ, List.getElem_cons_zero, Act.put, List.setIfInBounds_toArray, List.set_cons_zero, List.set_cons_succ])
              refine wpAnyH_take (i := 5) (oi := _) (v := ?_) rfl (by kernel_rfl) (by kernel_rfl) (by kernel_rfl) (fun _ _ _ h => h) (Or.inl ⟨by rfl, ?_⟩) (by assumption) ?_; rotate_left; focus (intro W hSw; (try dsimp only at hSw); go_simp; (first | done | with_reducible rfl))
              (try simp only [List.getElem_toArray, List.getElem_cons_succ, List.getElem_cons_zero, Act.put, List.setIfInBounds_toArray, List.set_cons_zero, List.set_cons_succ])
              refine wpAnyH_take (i := 6) (oi := _) (v := ?_) rfl (by kernel_rfl) (by kernel_rfl) (by kernel_rfl) (fun _ _ _ h => h) (Or.inl ⟨by rfl, ?_⟩) (by assumption) ?_; rotate_left; focus (intro W hSw; (try dsimp only at hSw); go_simp; (first | done | with_reducible rfl))
              (try simp only [List.getElem_toArray, List.getElem_cons_succ, List.getElem_cons_zero, Act.put, List.setIfInBounds_toArray, List.set_cons_zero, List.set_cons_succ])
              refine wpAnyH_done (by kernel_rfl) ?_ _
              refine NoPanic.normal ?_
              (try simp only [List.getElem_toArray, List.getElem_cons_succ, List.getElem_cons_zero, Act.put, List.setIfInBounds_toArray, List.set_cons_zero, List.set_cons_succ])
              clear hu
              go_wp2
              go_roundw
              case rel => exact ⟨q + 1, by omega, by go_num, rfl, all_succ (p := fun j => decide ((cn ids (at_ fs j).id : Int) < (at_ fs j).mo) = false) HNo.out HNn.out, HB5.out.drew⟩
              case measure => simp [intOf]; omega
          · obtain rfl : q = m := by omega
            have HPK := Lib.hid (show pkI rs ids x = ((z0 : Nat) : Int) from by
              rw [pk_no HFs.out (by rw [HM.out]; exact HNo.out), HZ0.out]; rfl)
            have HS6 := Lib.hid (HS4.out.below HB.out)
            have HA6 := Lib.hid (HA4.out.later HB.out)
            have HSx := Lib.hid (show IntK.Gr w _ ids wr from HS6.out)
            have HAx := Lib.hid (show Blk wr G 58 _ from HA6.out)
            obtain ⟨y0, y1⟩ := Ar100.cell HAx.out (j := z0) hz0l
            obtain ⟨zz, hzz⟩ : ∃ z, cn ids ((z0 : Nat) : Int) = z := ⟨_, rfl⟩
            have hzzl := cn_le ids ((z0 : Nat) : Int)
            rw [hzz, HLk.out] at hzzl
            rw [hzz] at y0
            have HZZ := Lib.hid hzz
            clear hzz
            have HAn := Lib.hid (show Blk (World.setCell wr ⟨G, z0, none⟩ (.int .i64 ((zz : Int) + 1))) G 58 (Ar100.cs fun j => (cn (ids ++ [((z0 : Nat) : Int)]) (j : Int) : Int)) from by
              have h := Ar100.put HAx.out z0 ((zz : Int) + 1)
              have e : ((zz : Int) + 1) = (cn ids ((z0 : Nat) : Int) : Int) + 1 := by rw [HZZ.out]
              rw [e] at h ⊢
              rw [upd_cn] at h
              exact h)
            have HSn := Lib.hid (show IntK.Gr w _ ids (World.setCell wr ⟨G, z0, none⟩ (.int .i64 ((zz : Int) + 1))) from ⟨HSx.out.b.setCell (p := ⟨G, z0, none⟩) hG0 _, own_far HSx.out.own HAx.out (by decide) _⟩)
            obtain ⟨wy, hwy⟩ : ∃ wy, World.setCell wr ⟨G, z0, none⟩ (.int .i64 ((zz : Int) + 1)) = wy := ⟨_, rfl⟩
            rw [hwy] at HAn HSn
            have hx1 : ((z0 : Nat) : Int) < 100 := by omega
            have hx0 : (0 : Int) ≤ ((z0 : Nat) : Int) := by omega
            have hown := HSn.out.own.below ((Below.refl _ _).alloc (Nat.le_refl _) (.cells #[.int .i64 ((z0 : Nat) : Int)] 3))
            unfold OwnI at hown
            rw [HLk.out] at hown
            have HTa := Lib.hid (HSn.out.alloc (.cells #[.int .i64 ((z0 : Nat) : Int)] 3))
            have HAa := Lib.hid (HAn.out.alloc (.cells #[.int .i64 ((z0 : Nat) : Int)] 3))
            have hsz := HSn.out.b.size
            have HWy := Lib.hid hwy
            clear hwy HSx HAx
            go_upto_region 16 with (fail)
            rw [HWy.out]
            go_wp2_with (at_builtin; (refine wpList_append_own _ rfl (.tmp 52) (.tmp 54) 28 rfl w.heap.size 3 t0 (.int .i64 0) 1 8 Try.underlying28 hi0 hz0 hz1 hz2 rfl (by decide) _ k _ rfl hown ⟨_, 0, none⟩ 1 1 [.int .i64 ((z0 : Nat) : Int)] rfl rfl (cell_one_new _ _ _) (by simp [Value.oneCell']) (by unfold maxLen; omega) (by omega) (by simp; omega) ?_; intro v' w3 hown3 hgr3 _; have HAP := Lib.hid (blk_keep HTa.out.own HAa.out (by decide) hgr3); have HP3 := Lib.hid (HTa.out.put HLk.out hgr3 hown3); clear hown3 hgr3))
            go_roundg (n - (k + 1))
            case measure => omega
            case rel => exact ⟨k + 1, by omega, rfl, by go_num, by rw [HNX.out, HPK.out]; exact HP3.out, by rw [HNX.out, HPK.out]; exact HAP.out⟩
      · obtain rfl : k = n := by omega
        have HQ := Lib.hid (show IntK.Gr w u6 zs wr from by
          have h := HS.out
          rwa [show us.take k = us from List.take_of_length_le (by rw [HN.out]; exact Nat.le_refl _), h2.out] at h)
        go_wp2_with fail
        go_ret2
        exact ⟨_, rfl, HQ.out.own, HQ.out.b⟩
end Go.Proofs.Ytleoljnofdajfaa.KaL
