/- SharedCourses: both texts. -/
import Derived.Test.YtnenaponiahalaaKaF
import Derived.Test.YtnenaponiahalaaKaH
import Derived.Test.YtnenaponiahalaaAr21
import Derived.Deep.CutBlock
namespace Go.Proofs.Ytnenaponiahalaa.KaS
open Go.RowKit Lb Bk InA KlI KaA KaG KaF KaH
open KlK (at_ at_lt no Row Own cells blk_cells)
open IntS (OwnI iInfo)
set_option linter.unusedSimpArgs false
set_option linter.unusedVariables false

/-- How many Classes run a course. -/
def cnt (rs : List Kl) (j : Nat) : Nat := (rs.filter (fun r => r.co == (j : Int))).length
theorem cnt_le (rs : List Kl) (j : Nat) : cnt rs j ≤ rs.length := List.length_filter_le _ _
theorem cnt_take {rs : List Kl} {k : Nat} (hk : k < rs.length) (j : Nat) : cnt (rs.take (k + 1)) j = cnt (rs.take k) j + if (at_ rs k).co = (j : Int) then 1 else 0 := by
  unfold cnt
  by_cases h : (at_ rs k).co = (j : Int)
  · rw [fil_take (p := fun r => r.co == (j : Int)) hk (by simpa using h), if_pos h, List.length_append]
    rfl
  · rw [fil_skip (p := fun r => r.co == (j : Int)) hk (by simpa using h), if_neg h]
    rfl
theorem cnt_zero {rs : List Kl} (h : goodB rs = true) : cnt rs 0 = 0 := by
  unfold cnt
  rw [List.length_eq_zero_iff, List.filter_eq_nil_iff]
  intro r hr
  obtain ⟨j, hj, rfl⟩ := List.mem_iff_getElem.1 hr
  have := (ok_co (good_ok h hj)).1
  rw [at_lt hj] at this
  simp
  omega
/-- The shared courses below a number. -/
def shL (rs : List Kl) (k : Nat) : List Int := ((List.range k).filter (fun j => decide (2 ≤ cnt rs j))).map (fun j => ((j : Nat) : Int))
theorem sh_len (rs : List Kl) (k : Nat) : (shL rs k).length ≤ k := by
  unfold shL
  rw [List.length_map]
  have := List.length_filter_le (fun j => decide (2 ≤ cnt rs j)) (List.range k)
  simpa using this
theorem sh_yes {rs : List Kl} {k : Nat} (h : 2 ≤ cnt rs k) : shL rs (k + 1) = shL rs k ++ [(k : Int)] := by
  unfold shL
  rw [List.range_succ, List.filter_append, List.map_append]
  simp [h]
theorem sh_no {rs : List Kl} {k : Nat} (h : ¬ 2 ≤ cnt rs k) : shL rs (k + 1) = shL rs k := by
  unfold shL
  rw [List.range_succ, List.filter_append, List.map_append]
  simp [h]
/-- What SharedCourses answers. -/
def scL (rs : List Kl) : List Int := if goodB rs then shL rs 21 else []
theorem sc_len (rs : List Kl) : (scL rs).length ≤ 21 := by
  unfold scL
  split
  · exact sh_len rs 21
  · exact Nat.zero_le _
theorem upd_cnt {rs : List Kl} {k c : Nat} (hk : k < rs.length) (hc : (at_ rs k).co = (c : Int)) : Ar21.cs (Ar21.upd (fun j => (cnt (rs.take k) j : Int)) c ((cnt (rs.take k) c : Int) + 1)) = Ar21.cs (fun j => (cnt (rs.take (k + 1)) j : Int)) := by
  refine Ar21.cs_congr fun j _ => ?_
  unfold Ar21.upd
  rw [cnt_take hk, hc]
  by_cases h : j = c
  · subst h; simp
  · rw [if_neg h, if_neg (by omega)]; simp

set_option maxRecDepth 20000 in
set_option maxHeartbeats 4000000 in
theorem sc_impl (rs : List Kl) (hf : ∀ i, i < rs.length → KlK.Is (at_ rs i)) (hl : rs.length ≤ 1048576) (a : Option Addr) (cap : Nat) (w : World) (hc : rs.length ≤ cap) (hr : Row w a rs) :
    Calls Try.prog 42 #[.slice a rs.length cap] w (NPost w (scL rs) (goodB rs)) := by
  obtain ⟨t0, hi0, hz0, hz1, hz2⟩ := info_parts iInfo
  have H := Lib.hid hr
  have hml : rs.length ≤ maxLen := by unfold maxLen; omega
  obtain ⟨g, hg⟩ : ∃ g, goodB rs = g := ⟨_, rfl⟩
  have c1 := Lib.hid (fun w hr => hg ▸ KaA.impl_any a cap rs w hc hr hf hml)
  have HG := Lib.hid hg
  obtain ⟨zs, hzs⟩ : ∃ zs, scL rs = zs := ⟨_, rfl⟩
  have HZ := Lib.hid hzs
  rw [hg, hzs]
  obtain ⟨n, hn⟩ : ∃ n, rs.length = n := ⟨_, rfl⟩
  have HN := Lib.hid hn
  rw [hn] at hl c1 hc hml ⊢
  clear hr hg hzs hf hn
  go_enter Try.func42, Try.ntmps42
  go_wp2_with fail
  refine (c1.out _ H.out).mono ?_
  rintro e w1 ⟨rfl, hb⟩
  have HB1 := Lib.hid hb
  clear hb
  have hsz := HB1.out.size
  cases g with
  | false =>
    have h2 : zs = [] := by rw [← HZ.out]; unfold scL; rw [HG.out]; rfl
    subst h2
    go_wp2
    go_ret2
    exact ⟨_, rfl, own_none w1 w.heap.size hsz, HB1.out.alloc hsz _⟩
  | true =>
    have hn8 := good_len HG.out
    rw [HN.out] at hn8
    have h2 := Lib.hid (show shL rs 21 = zs from by rw [← HZ.out]; unfold scL; rw [HG.out]; rfl)
    obtain ⟨G, hGq⟩ : ∃ G, w1.heap.size = G := ⟨_, rfl⟩
    have HB2 := Lib.hid (HB1.out.alloc hsz (.cells (Ar21.cs fun _ => 0) 126))
    have HA2 := Lib.hid (show Blk (w1.alloc (.cells (Ar21.cs fun _ => 0) 126)) G 126 (Ar21.cs fun _ => 0) from by rw [← hGq]; exact Blk.new w1 _ _)
    have hG0 : w.heap.size ≤ G := by omega
    have HGq := Lib.hid hGq
    have hG21 : G < (w1.alloc (.cells (Ar21.cs fun _ => 0) 126)).heap.size := HA2.out.lt
    clear hGq HB1 c1 hsz
    go_wp2_with fail
    try rw [HGq.out]
    go_loopw [16] (fun i wr => ∃ k : Nat, k ≤ n ∧ i = .int .i64 k ∧ Below w.heap.size w wr ∧ Blk wr G 126 (Ar21.cs fun j => (cnt (rs.take k) j : Int)) ∧ G < wr.heap.size) (fun i _ => n - (intOf i).toNat)
    case atStart => exact ⟨0, Nat.zero_le _, rfl, HB2.out, HA2.out, hG21⟩
    case round =>
      clear HB2 HA2 hG21
      obtain ⟨k, hk, rfl, hB, hA, hGs⟩ := hrel
      have HB := Lib.hid hB
      have HA := Lib.hid hA
      clear hB hA
      by_cases hlt : k < n
      · obtain ⟨b, off, rfl, c0, c1, c2, c3, c4, c5, c6, c7⟩ := (H.out.later HB.out).cells (i := k) (by rw [HN.out]; exact hlt)
        obtain ⟨y, hy⟩ : ∃ y, at_ rs k = y := ⟨_, rfl⟩
        have hco := ok_co (good_ok HG.out (i := k) (by rw [HN.out]; exact hlt))
        rw [hy] at c0 c1 c2 c3 c4 c5 c6 c7 hco
        obtain ⟨c, hc⟩ : ∃ c : Nat, y.co = (c : Int) := ⟨y.co.toNat, by omega⟩
        have HC := Lib.hid hc
        have hc1 : c < 21 := by omega
        have hc2 : (c : Int) < 21 := by omega
        have hc3 : (0 : Int) ≤ (c : Int) := by omega
        have HNX := Lib.hid (upd_cnt (rs := rs) (k := k) (c := c) (by rw [HN.out]; exact hlt) (by rw [hy]; exact hc))
        have hcl := cnt_le (rs.take k) c
        rw [KaA.take_len (by rw [HN.out]; omega)] at hcl
        obtain ⟨z, hz⟩ : ∃ z, cnt (rs.take k) c = z := ⟨_, rfl⟩
        rw [hz] at hcl
        have HB2 := Lib.hid (HB.out.alloc HB.out.size (.cells #[.int .i64 y.id, .string y.nm, .int .i64 y.lo, .int .i64 y.hi, .bool y.wo, .bool y.me, .int .i64 y.co, .int .i64 y.mo] 46))
        have HK2 := Lib.hid (Blk.new wr 46 #[.int .i64 y.id, .string y.nm, .int .i64 y.lo, .int .i64 y.hi, .bool y.wo, .bool y.me, .int .i64 y.co, .int .i64 y.mo])
        have HA2 := Lib.hid (HA.out.alloc (.cells #[.int .i64 y.id, .string y.nm, .int .i64 y.lo, .int .i64 y.hi, .bool y.wo, .bool y.me, .int .i64 y.co, .int .i64 y.mo] 46))
        have hGs2 : G < (wr.alloc (.cells #[.int .i64 y.id, .string y.nm, .int .i64 y.lo, .int .i64 y.hi, .bool y.wo, .bool y.me, .int .i64 y.co, .int .i64 y.mo] 46)).heap.size := by rw [World.size_alloc]; omega
        obtain ⟨x0, x1⟩ := Ar21.cell HA2.out hc1
        rw [hz] at x0
        have HZq := Lib.hid hz
        clear hy hc hco HB HA hz
        go_upto_region 7 with (fail)
        obtain ⟨⟨e0, e1, e2, e3, e4, e5, e6, e7⟩, -⟩ := blk_cells HK2.out
        generalize wr.alloc (.cells #[.int .i64 y.id, .string y.nm, .int .i64 y.lo, .int .i64 y.hi, .bool y.wo, .bool y.me, .int .i64 y.co, .int .i64 y.mo] 46) = wz at *
        rw [HC.out] at e6
        clear c0 c1 c2 c3 c4 c5 c6 c7
        have HP := Lib.hid (show Blk (wz.setCell ⟨G, c, none⟩ (.int .i64 ((z : Int) + 1))) G 126 (Ar21.cs fun j => (cnt (rs.take (k + 1)) j : Int)) from by
          have h := Ar21.put HA2.out c ((z : Int) + 1)
          rw [show ((z : Int) + 1) = (cnt (rs.take k) c : Int) + 1 from by rw [HZq.out], HNX.out] at h
          rw [show ((z : Int) + 1) = (cnt (rs.take k) c : Int) + 1 from by rw [HZq.out]]
          exact h)
        have HBp := Lib.hid (HB2.out.setCell (p := ⟨G, c, none⟩) hG0 (.int .i64 ((z : Int) + 1)))
        go_wp2
        go_roundw
        case rel => exact ⟨k + 1, by omega, by go_num, HBp.out, HP.out, by simpa using hGs2⟩
        case measure => simp [intOf]; omega
      · obtain rfl : k = n := by omega
        have HA1 := Lib.hid (show Blk wr G 126 (Ar21.cs fun j => (cnt rs j : Int)) from by
          have h := HA.out
          rwa [show rs.take k = rs from List.take_of_length_le (by rw [HN.out]; exact Nat.le_refl _)] at h)
        have hrg := Lib.hid (Ar21.range ((HA1.out).alloc (.cells #[] 3)))
        have HS1 := Lib.hid (show IntK.Gr w (.slice (some ⟨wr.heap.size, 0, none⟩) 0 0) [] (wr.alloc (.cells #[] 3)) from ⟨HB.out.alloc HB.out.size _, own_none wr w.heap.size HB.out.size⟩)
        obtain ⟨c, hcq⟩ : ∃ c : Nat → Int, (fun j => (cnt rs j : Int)) = c := ⟨_, rfl⟩
        rw [hcq] at hrg
        have hcc := Lib.hid (fun j => congrFun hcq j)
        clear HA HB hcq
        go_upto_region 10 with (fail)
        apply wp_region_lit
        refine wpList_load_mid rfl 126 (.tmp 4) rfl G 0 rfl (Ar21.ls c) _ hrg.out Try.underlying126 rfl (by rw [Ar21.ls_len]; exact Ar21.info) ?_
        rw [show (Ar21.ls c).toArray = Ar21.cs c from rfl]
        clear hrg
        go_wp2_with fail
        go_loopg [29, 7] 21 (fun gk i v wq => ∃ q : Nat, q ≤ 21 ∧ gk = 21 - q ∧ i = .int .i64 q ∧ IntK.Gr w v (shL rs q) wq)
        case atStart => exact ⟨0, by omega, rfl, rfl, HS1.out⟩
        case round =>
          clear HS1
          obtain ⟨q, hq, hgk, rfl, hS⟩ := hrel
          have HS := Lib.hid hS
          clear hS
          by_cases hlt2 : q < 21
          · obtain ⟨m, hm⟩ : ∃ m, cnt rs q = m := ⟨_, rfl⟩
            have hmc : c q = (m : Int) := by rw [← hm]; exact (hcc.out q).symm
            have hix : ∀ W, (Instr.index 126 (.agg (Ar21.cs c)) (.int .i64 q)).run Try.prog W = .ok (.int .i64 m) W := fun W => by rw [← hmc]; exact Ar21.index c q hlt2 W
            have hm2 := cnt_le rs q
            rw [HN.out, hm] at hm2
            have hsl := sh_len rs q
            obtain ⟨fl, hfl⟩ : ∃ x, (shL rs q).length = x := ⟨_, rfl⟩
            rw [hfl] at hsl
            have HM := Lib.hid hfl
            have HMq := Lib.hid hm
            clear hmc hfl hm
            by_cases h2m : 2 ≤ m
            · have HTk := Lib.hid (sh_yes (rs := rs) (k := q) (by rw [HMq.out]; exact h2m))
              have hown := HS.out.own.below ((Below.refl _ _).alloc (Nat.le_refl _) (.cells #[.int .i64 q] 3))
              unfold OwnI at hown
              rw [HM.out] at hown
              have HTa := Lib.hid (HS.out.alloc (.cells #[.int .i64 q] 3))
              have hsz := HS.out.b.size
              go_wp2_with (at_builtin; (refine wpList_append_own _ rfl (.tmp 35) (.tmp 37) 24 rfl w.heap.size 3 t0 (.int .i64 0) 1 8 Try.underlying24 hi0 hz0 hz1 hz2 rfl (by decide) _ fl _ rfl hown ⟨_, 0, none⟩ 1 1 [.int .i64 q] rfl rfl (cell_one_new _ _ _) (by simp [Value.oneCell']) (by unfold maxLen; omega) (by omega) (by simp; omega) ?_; intro v' w3 hown3 hgr3 _; have HP3 := Lib.hid (HTa.out.put HM.out hgr3 hown3); clear hown3 hgr3))
              go_roundg (21 - (q + 1))
              case measure => omega
              case rel => exact ⟨q + 1, by omega, rfl, by go_num, by rw [HTk.out]; exact HP3.out⟩
            · have HTk := Lib.hid (sh_no (rs := rs) (k := q) (by rw [HMq.out]; exact h2m))
              go_wp2
              go_roundg (21 - (q + 1))
              case measure => omega
              case rel => exact ⟨q + 1, by omega, rfl, by go_num, by rw [HTk.out]; exact HS.out⟩
          · obtain rfl : q = 21 := by omega
            have HQ := Lib.hid (show IntK.Gr w u7 zs wr from by have h := HS.out; rwa [h2.out] at h)
            go_wp2_with fail
            go_ret2
            exact ⟨_, rfl, HQ.out.own, HQ.out.b⟩

set_option maxRecDepth 20000 in
set_option maxHeartbeats 4000000 in
theorem sc_spec (rs : List Kl) (hf : ∀ i, i < rs.length → KlK.Is (at_ rs i)) (hl : rs.length ≤ 1048576) (a : Option Addr) (cap : Nat) (w : World) (hr : Row w a rs) :
    Calls Try.prog 43 #[.slice a rs.length cap] w (NPost w (scL rs) (goodB rs)) := by
  obtain ⟨t0, hi0, hz0, hz1, hz2⟩ := info_parts iInfo
  have H := Lib.hid hr
  have hml : rs.length ≤ maxLen := by unfold maxLen; omega
  obtain ⟨g, hg⟩ : ∃ g, goodB rs = g := ⟨_, rfl⟩
  have c1 := Lib.hid (fun w hr => hg ▸ good_any a cap rs w hr hf hml)
  have HG := Lib.hid hg
  obtain ⟨zs, hzs⟩ : ∃ zs, scL rs = zs := ⟨_, rfl⟩
  have HZ := Lib.hid hzs
  rw [hg, hzs]
  obtain ⟨n, hn⟩ : ∃ n, rs.length = n := ⟨_, rfl⟩
  have HN := Lib.hid hn
  rw [hn] at hl c1 hml ⊢
  have HS0 := Lib.hid (IntK.Gr.start w)
  clear hr hg hzs hf hn
  go_enter Try.func43, Try.ntmps43
  go_wp2_with fail
  refine (c1.out _ (H.out.later HS0.out.b)).mono ?_
  rintro e w1 ⟨rfl, hb⟩
  have HS1 := Lib.hid (HS0.out.below hb)
  clear hb HS0
  cases g with
  | false =>
    have h2 : zs = [] := by rw [← HZ.out]; unfold scL; rw [HG.out]; rfl
    subst h2
    go_wp2
    go_ret2
    exact ⟨_, rfl, HS1.out.own, HS1.out.b⟩
  | true =>
    have hn8 := good_len HG.out
    rw [HN.out] at hn8
    have h2 := Lib.hid (show shL rs 21 = zs from by rw [← HZ.out]; unfold scL; rw [HG.out]; rfl)
    have h10 := Lib.hid (show shL rs 1 = [] from by rw [sh_no (k := 0) (by rw [cnt_zero HG.out]; omega)]; rfl)
    go_wp2_with fail
    go_loopg [5, 4, 6, 7] 21 (fun gk i v _ _ wq => ∃ q : Nat, 1 ≤ q ∧ q ≤ 21 ∧ gk = 22 - q ∧ i = .int .i64 q ∧ IntK.Gr w v (shL rs q) wq)
    case atStart => exact ⟨1, by omega, by omega, rfl, rfl, by rw [h10.out]; exact HS1.out⟩
    case round =>
      clear HS1
      obtain ⟨q, hq1, hq, hgk, rfl, hS⟩ := hrel
      have HS := Lib.hid hS
      clear hS
      by_cases hlt2 : q < 21
      · have hq20 : (q : Int) ≤ 20 := by omega
        go_wp2_with fail
        go_loop [7, 6] (fun i z => ∃ k : Nat, k ≤ n ∧ i = .int .i64 k ∧ z = .int .i64 (cnt (rs.take k) q)) (fun i _ => n - (intOf i).toNat)
        case atStart => exact ⟨0, Nat.zero_le _, rfl, rfl⟩
        case round =>
          obtain ⟨k, hk, rfl, rfl⟩ := hrel
          by_cases hlt : k < n
          · obtain ⟨b, off, rfl, -, -, -, -, -, -, c6, -⟩ := (H.out.later HS.out.b).cells (i := k) (by rw [HN.out]; exact hlt)
            obtain ⟨y, hy⟩ : ∃ y, (at_ rs k).co = y := ⟨_, rfl⟩
            rw [hy] at c6
            have HT := Lib.hid (cnt_take (rs := rs) (k := k) (by rw [HN.out]; exact hlt) q)
            have hcl := cnt_le (rs.take k) q
            rw [KaA.take_len (by rw [HN.out]; omega)] at hcl
            obtain ⟨z, hz⟩ : ∃ z, cnt (rs.take k) q = z := ⟨_, rfl⟩
            rw [hz] at hcl HT ⊢
            rw [hy] at HT
            have hk0 : (0 : Int) ≤ (k : Int) := by omega
            have hk1 : (k : Int) < (n : Int) := by omega
            clear hy hz
            by_cases hyq : y = (q : Int)
            · have hd : (y == (q : Int)) = true := by simpa using hyq
              have HT2 := Lib.hid (show cnt (rs.take (k + 1)) q = z + 1 from by rw [HT.out, if_pos hyq])
              clear hyq
              go_wp2
              go_round
              case rel => exact ⟨k + 1, by omega, by go_num, by rw [HT2.out]; go_num⟩
              case measure => simp [intOf]; omega
            · have hd : (y == (q : Int)) = false := by simpa using hyq
              have HT2 := Lib.hid (show cnt (rs.take (k + 1)) q = z from by rw [HT.out, if_neg hyq]; rfl)
              clear hyq
              go_wp2
              go_round
              case rel => exact ⟨k + 1, by omega, by go_num, by rw [HT2.out]⟩
              case measure => simp [intOf]; omega
          · obtain rfl : k = n := by omega
            have e : rs.take k = rs := List.take_of_length_le (by rw [HN.out]; exact Nat.le_refl _)
            rw [e]
            clear e
            have hm2 := cnt_le rs q
            obtain ⟨m, hm⟩ : ∃ m, cnt rs q = m := ⟨_, rfl⟩
            rw [HN.out, hm] at hm2
            rw [hm]
            have hsl := sh_len rs q
            obtain ⟨fl, hfl⟩ : ∃ x, (shL rs q).length = x := ⟨_, rfl⟩
            rw [hfl] at hsl
            have HM := Lib.hid hfl
            have HMq := Lib.hid hm
            clear hfl hm
            by_cases h2m : 2 ≤ m
            · have HTk := Lib.hid (sh_yes (rs := rs) (k := q) (by rw [HMq.out]; exact h2m))
              have hown := HS.out.own.below ((Below.refl _ _).alloc (Nat.le_refl _) (.cells #[.int .i64 q] 3))
              unfold OwnI at hown
              rw [HM.out] at hown
              have HTa := Lib.hid (HS.out.alloc (.cells #[.int .i64 q] 3))
              have hsz := HS.out.b.size
              go_wp2_with (at_builtin; (refine wpList_append_own _ rfl (.tmp 34) (.tmp 36) 24 rfl w.heap.size 3 t0 (.int .i64 0) 1 8 Try.underlying24 hi0 hz0 hz1 hz2 rfl (by decide) _ fl _ rfl hown ⟨_, 0, none⟩ 1 1 [.int .i64 q] rfl rfl (cell_one_new _ _ _) (by simp [Value.oneCell']) (by unfold maxLen; omega) (by omega) (by simp; omega) ?_; intro v' w3 hown3 hgr3 _; have HP3 := Lib.hid (HTa.out.put HM.out hgr3 hown3); clear hown3 hgr3))
              go_roundg (22 - (q + 1))
              case measure => omega
              case rel => exact ⟨q + 1, by omega, by omega, rfl, by go_num, by rw [HTk.out]; exact HP3.out⟩
            · have HTk := Lib.hid (sh_no (rs := rs) (k := q) (by rw [HMq.out]; exact h2m))
              go_wp2
              go_roundg (22 - (q + 1))
              case measure => omega
              case rel => exact ⟨q + 1, by omega, by omega, rfl, by go_num, by rw [HTk.out]; exact HS.out⟩
      · obtain rfl : q = 21 := by omega
        have HQ := Lib.hid (show IntK.Gr w u4 zs wr from by have h := HS.out; rwa [h2.out] at h)
        go_wp2_with fail
        go_ret2
        exact ⟨_, rfl, HQ.out.own, HQ.out.b⟩

theorem both (rs : List Kl) (hf : ∀ i, i < rs.length → KlK.Is (at_ rs i)) (hl : rs.length ≤ 1048576) : ∃ (zs : List Int) (ok : Bool), zs.length ≤ 1048576 ∧
    (∀ a cap w, rs.length ≤ cap → Row w a rs → Calls Try.prog 43 #[.slice a rs.length cap] w fun e w' => ∃ v, e = .returned (.tuple #[v, .bool ok]) ∧ IntK.Own w' w.heap.size v zs ∧ Below w.heap.size w w') ∧
    (∀ a cap w, rs.length ≤ cap → Row w a rs → Calls Try.prog 42 #[.slice a rs.length cap] w fun e w' => ∃ v, e = .returned (.tuple #[v, .bool ok]) ∧ IntK.Own w' w.heap.size v zs ∧ Below w.heap.size w w') :=
  ⟨scL rs, goodB rs, by have := sc_len rs; omega, fun a cap w _ hr => sc_spec rs hf hl a cap w hr, fun a cap w hc hr => sc_impl rs hf hl a cap w hc hr⟩
end Go.Proofs.Ytnenaponiahalaa.KaS
