/- The parts of a map: the program. -/
import Derived.Test.YtijcdnmcmngheaaPrtB
import Derived.Test.YtijcdnmcmngheaaCells
namespace Go.Proofs.Ytijcdnmcmngheaa.PrtI
open Go.RowKit Lb IntS MapS MapV SpecB TblS PrtB High
open Go.Proofs.Ytijcdnmcmngheaa.Cells (impl_next)
set_option linter.unusedSimpArgs false
set_option linter.unusedVariables false

set_option maxHeartbeats 1000000 in
theorem impl_bad (m : Mp) (a b : Option Addr) (ca cb : Nat) (w : World) (hR : m.R.length ≤ maxLen) (hC : m.C.length ≤ maxLen) (hr : IRow w a m.R) (hc : IRow w b m.C) (h : ¬ m.ok) (zs : Nat → List Int) :
    Calls Try.prog 34 #[.agg #[.int .i64 m.W, .int .i64 m.H, .slice a m.R.length ca, .slice b m.C.length cb]] w (TPst w 0 zs false) := by
  have HB := Lib.hid ((Below.refl w.heap.size w).alloc (Nat.le_refl _) (.cells #[.int .i64 m.W, .int .i64 m.H, .slice a m.R.length ca, .slice b m.C.length cb] 26))
  have hk := okB_no h
  clear h
  go_enter Try.func34, Try.ntmps34
  go_wp2_with fail
  refine (MapV.impl_any m a b ca cb _ hR hC (RowAt.below hr HB.out) (RowAt.below hc HB.out)).mono ?_
  rw [hk]
  rintro e w1 ⟨rfl, hb1⟩
  have HB1 := Lib.hid (HB.out.trans (hb1.mono (by simp)))
  clear hb1
  go_wp2
  go_ret2
  exact ⟨_, fun _ => undef, rfl, ownP_nil w1 w zs _ HB1.out.size, HB1.out.alloc HB1.out.size _⟩

/-- The bits as the search has set them. -/
def Bits (m : Mp) (n k : Nat) (p : List Nat) (sb : Nat → Bool) : Prop := ∀ i, i < 36 → (sb i = true ↔ Seen m n k i ∨ i ∈ p)
theorem Bits.put {m : Mp} {n k y : Nat} {p : List Nat} {sb : Nat → Bool} (h : Bits m n k p sb) : Bits m n k (p ++ [y]) (setB sb y) := by
  intro i hi
  unfold setB
  rw [Bool.or_eq_true, h i hi, List.mem_append, List.mem_singleton, beq_iff_eq]
  constructor
  · rintro ((h | h) | h)
    · exact .inl h
    · exact .inr (.inl h)
    · exact .inr (.inr h)
  · rintro (h | h | h)
    · exact .inl (.inl h)
    · exact .inl (.inr h)
    · exact .inr h
theorem Bits.start {m : Mp} {n k : Nat} {sb : Nat → Bool} (h : Bits m n k [] sb) : Bits m n k [k] (setB sb k) := by
  have := h.put (y := k)
  simpa using this
/-- Behind the search all cells of the part are seen. -/
theorem Bits.done {m : Mp} {n k : Nat} {p : List Nat} {sb : Nat → Bool} (h : Bits m n k p sb) (ho : Opn m n k) (hp : ∀ x, x ∈ p ↔ Rch m k x) : Bits m n (k + 1) [] sb := by
  intro i hi
  rw [h i hi, hp, seen_new ho]
  simp
theorem Bits.forb {m : Mp} {n k : Nat} {sb : Nat → Bool} (h : Bits m n k [] sb) (ho : ¬ Opn m n k) : Bits m n (k + 1) [] sb := fun i hi => by rw [h i hi, seen_forb ho]
theorem Bits.old {m : Mp} {n k : Nat} {sb : Nat → Bool} (h : Bits m n k [] sb) (ho : Seen m n k k) : Bits m n (k + 1) [] sb := fun i hi => by rw [h i hi, seen_old ho]

set_option maxRecDepth 100000 in
set_option maxHeartbeats 4000000 in
theorem impl_raw (ww hh : Nat) (R C : List Int) (a b : Option Addr) (ca cb : Nat) (w : World) (hok : Mp.ok ⟨ww, hh, R, C⟩) (g : GoodM ⟨ww, hh, R, C⟩ ww hh) (hr : IRow w a R) (hc : IRow w b C) (ps : List (List Nat)) (hps : PartsTo ⟨ww, hh, R, C⟩ (ww * hh) (ww * hh) ps) :
    Calls Try.prog 34 #[.agg #[.int .i64 ww, .int .i64 hh, .slice a R.length ca, .slice b C.length cb]] w (TPst w ps.length (zsOf ps) true) := by
  obtain ⟨t0, hi, hz0, hz1, hz2⟩ := info_parts iInfo
  obtain ⟨t1, ri, rz0, rz1, rz2⟩ := info_parts rInfo
  have n36 := g.n36
  have HG := Lib.hid g
  have HPS := Lib.hid hps
  have HCl := Lib.hid (show C.length = ww * hh from g.C)
  have hR : R.length ≤ maxLen := by have := g.R; simp only at this; unfold maxLen; omega
  have hC : C.length ≤ maxLen := by have := g.C; simp only at this; unfold maxLen; omega
  have HB := Lib.hid ((Below.refl w.heap.size w).alloc (Nat.le_refl _) (.cells #[.int .i64 ww, .int .i64 hh, .slice a R.length ca, .slice b C.length cb] 26))
  have HK := Lib.hid (Blk.new w 26 #[.int .i64 ww, .int .i64 hh, .slice a R.length ca, .slice b C.length cb])
  have HRr := Lib.hid hr
  have HCr := Lib.hid hc
  have hk := okB_yes hok
  clear hok g hps hr hc
  go_enter Try.func34, Try.ntmps34
  go_wp2_with fail
  refine (MapV.impl_any ⟨ww, hh, R, C⟩ a b ca cb _ hR hC (RowAt.below HRr.out HB.out) (RowAt.below HCr.out HB.out)).mono ?_
  rw [hk]
  rintro e w1 ⟨rfl, hb1⟩
  have HB1 := Lib.hid (HB.out.trans (hb1.mono (by simp)))
  have HK1 := Lib.hid (HK.out.later hb1)
  have hw1 : w.heap.size < w1.heap.size := HK1.out.lt
  clear hb1 hk
  obtain ⟨p0, p1, p2, p3, -⟩ := HK1.out.four
  go_wp2_with fail
  clear p0 p1 p2 p3
--TAIL
  go_loopg [19, 4] (ww * hh) (fun q i vp wr => ∃ k : Nat, k ≤ ww * hh ∧ q = ww * hh - k ∧ i = .int .i64 k ∧ ∃ qs rs sb, PartsTo ⟨ww, hh, R, C⟩ (ww * hh) k qs ∧ Bits ⟨ww, hh, R, C⟩ (ww * hh) k [] sb ∧ Srch w (w1.heap.size + 1) #[.int .i64 ww, .int .i64 hh, .slice a R.length ca, .slice b C.length cb] qs.length (zsOf qs) rs vp sb wr)
  case atStart =>
    refine ⟨0, Nat.zero_le _, rfl, rfl, [], fun _ => undef, fun _ => false, .zero, fun i hi => by simp [seen_zero], ?_⟩
    refine ⟨(HB1.out.alloc HB1.out.size _).alloc (by simp; omega) _, (HK1.out.alloc _).alloc _, (ownP_nil w1 w _ _ HB1.out.size).below ((Below.refl _ _).alloc (Nat.le_refl _) _), ?_, by omega⟩
    have := Blk.new (w1.alloc (.cells #[] 24)) 86 (seenCs fun _ => false)
    rw [World.size_alloc] at this
    exact this
  case round =>
    obtain ⟨k, hk, hq, rfl, qs, rs, sb, hP, hb, hS⟩ := hrel
    have HP := Lib.hid hP
    have HBt := Lib.hid hb
    have HS := Lib.hid hS
    have HPl := Lib.hid hP.length
    clear hP hb hS
    obtain ⟨p0, p1, p2, p3, -⟩ := HS.out.box.four
    by_cases hlt : k < ww * hh
    · have hkC : k < C.length := by have := HCl.out; omega
      have hk36 : k < 36 := by omega
      have hglt := HS.out.seen.lt
      have hHG := HG.out
      obtain ⟨-, -, hz0', hz9'⟩ := HG.out.cell k hlt
      simp only at hz0' hz9'
      clear hHG
      by_cases hf : zAt C k = 0
      · have HN := Lib.hid (show ¬ Opn ⟨ww, hh, R, C⟩ (ww * hh) k from fun h => by have := h.2; simp only at this; omega)
        have HF := Lib.hid hf
        clear hf
        go_upto_if 8 with (refine (forb_yes ⟨ww, hh, R, C⟩ a b ca cb k _ (RowAt.below HCr.out HS.out.b) hkC hC HF.out).mono ?_; rintro e w2 ⟨rfl, hb2⟩; have HS2 := Lib.hid (HS.out.below hb2); clear hb2)
        go_roundg (ww * hh - (k + 1))
        case measure => omega
        case rel => exact ⟨k + 1, by omega, rfl, by go_num, qs, rs, sb, .no HP.out (not_heads_forb HN.out), HBt.out.forb HN.out, HS2.out⟩
      · have HF := Lib.hid hf
        have HO := Lib.hid (show Opn ⟨ww, hh, R, C⟩ (ww * hh) k from ⟨hlt, by show 0 < zAt C k; omega⟩)
        clear hf
        by_cases hs : sb k = true
        · have HSe := Lib.hid (show Seen ⟨ww, hh, R, C⟩ (ww * hh) k k from by
            rcases (HBt.out k hk36).1 hs with h | h
            · exact h
            · cases h)
          go_upto_if 8 with (refine (forb_no ⟨ww, hh, R, C⟩ a b ca cb k _ (RowAt.below HCr.out HS.out.b) hkC hC HF.out).mono ?_; rintro e w2 ⟨rfl, hb2⟩; have HS2 := Lib.hid (HS.out.below hb2); clear hb2; obtain ⟨s1, s2⟩ := seen_cell HS2.out.seen hk36; rw [hs] at s1)
          go_roundg (ww * hh - (k + 1))
          case measure => omega
          case rel => exact ⟨k + 1, by omega, rfl, by go_num, qs, rs, sb, .no HP.out (not_heads_seen HG.out HSe.out), HBt.out.old HSe.out, HS2.out⟩
        · have hs' : sb k = false := by simpa using hs
          have HNS := Lib.hid (show ¬ Seen ⟨ww, hh, R, C⟩ (ww * hh) k k from fun h => hs ((HBt.out k hk36).2 (.inl h)))
          clear hs
          go_upto_if 8 with (refine (forb_no ⟨ww, hh, R, C⟩ a b ca cb k _ (RowAt.below HCr.out HS.out.b) hkC hC HF.out).mono ?_; rintro e w2 ⟨rfl, hb2⟩; have HS2 := Lib.hid (HS.out.below hb2); clear hb2; obtain ⟨s1, s2⟩ := seen_cell HS2.out.seen hk36; rw [hs'] at s1; have hg2 := HS2.out.seen.lt)
          have HLow := Lib.hid (show ∀ i, i < qs.length → ∀ x, (rs i).ownBlock = some x → x < w2.heap.size from fun i hi x hx => ((HS2.out.own.row i hi).lt x hx).2)
          have HSz := Lib.hid (show w.heap.size ≤ w2.heap.size from HS2.out.b.size)
          have HS3 := Lib.hid (show Srch w (w1.heap.size + 1) #[.int .i64 ww, .int .i64 hh, .slice a R.length ca, .slice b C.length cb] qs.length (zsOf qs) rs u4 (setB sb k) ((w2.setCell ⟨w1.heap.size + 1, k, none⟩ (.bool true)).alloc (.cells #[.int .i64 k] 3)) from (HS2.out.set_ k).alloc _)
          have HQ3 := Lib.hid (show OwnI ((w2.setCell ⟨w1.heap.size + 1, k, none⟩ (.bool true)).alloc (.cells #[.int .i64 k] 3)) w2.heap.size (.slice (some ⟨w2.heap.size, 0, none⟩) 1 1) (ints [k]) from by
            have := own_one (w2.setCell ⟨w1.heap.size + 1, k, none⟩ (.bool true)) w2.heap.size k (by simp)
            simpa [ints] using this)
          have HBf := Lib.hid (Bfs.start HNS.out)
          have HBs := Lib.hid HBt.out.start
          clear s1 s2 hg2 HBt HS
          go_loopg [8, 7] (ww * hh) (fun q i vq wr => ∃ d p sb, d ≤ p.length ∧ q = ww * hh - d ∧ i = .int .i64 (d : Nat) ∧ Bfs ⟨ww, hh, R, C⟩ (ww * hh) k p d ∧ Bits ⟨ww, hh, R, C⟩ (ww * hh) k p sb ∧ Srch w (w1.heap.size + 1) #[.int .i64 ww, .int .i64 hh, .slice a R.length ca, .slice b C.length cb] qs.length (zsOf qs) rs u4 sb wr ∧ OwnI wr w2.heap.size vq (ints p))
          case atStart => exact ⟨0, [k], setB sb k, Nat.zero_le _, rfl, rfl, HBf.out, HBs.out, HS3.out, HQ3.out⟩
          case round =>
            clear HS3 HQ3 HBf HBs HS2 hs'
            obtain ⟨d, p, sb1, hd, hq2, rfl, hbf, hbs, hS4, hQ4⟩ := hrel
            have HBf := Lib.hid hbf
            have HBs := Lib.hid hbs
            have HS4 := Lib.hid hS4
            have HQ4 := Lib.hid hQ4
            have hpl : p.length ≤ ww * hh := hbf.length HG.out HO.out
            have hp0 : 0 < p.length := List.length_pos_of_mem hbf.head
            clear hbf hbs hS4 hQ4 p0 p1 p2 p3
            obtain ⟨gq, cq, rfl⟩ := own_ints_slice HQ4.out hp0
            by_cases hdl : d < p.length
            · obtain ⟨x, hx⟩ : ∃ x, p.getD d 0 = x := ⟨_, rfl⟩
              have hxo := (HBf.out.rch x (by rw [← hx]; exact getD_mem hdl)).opn HG.out HO.out
              have hxl : x < ww * hh := hxo.1
              have hcd := own_ints_cell HQ4.out hdl
              rw [hx] at hcd
              have HX := Lib.hid hx
              have hgq := (HQ4.out.lt gq (by simp [Value.ownBlock])).2
              obtain ⟨p0, p1, p2, p3, -⟩ := HS4.out.box.four
              have HSd := Lib.hid (show Srch w (w1.heap.size + 1) #[.int .i64 ww, .int .i64 hh, .slice a R.length ca, .slice b C.length cb] qs.length (zsOf qs) rs u4 sb1 wr.drew from ⟨HS4.out.b.drew, HS4.out.box, ⟨HS4.out.own.tbl, HS4.out.own.row, HS4.out.own.ne⟩, HS4.out.seen, HS4.out.hg⟩)
              have HQd := Lib.hid (show OwnI wr.drew w2.heap.size (.slice (some ⟨gq, 0, none⟩) p.length cq) (ints p) from HQ4.out)
              clear hx hxo
              go_upto_region 14 with (fail)
              go_cut [45, 46, 47] from 40 to 48 (fun v5 n5 z5 wx => ∃ a5 c5, v5 = .slice a5 (nx ⟨ww, hh, R, C⟩ x).length c5 ∧ n5 = .int .i64 ((nx ⟨ww, hh, R, C⟩ x).length : Nat) ∧ z5 = .int .i64 0 ∧ Srch w (w1.heap.size + 1) #[.int .i64 ww, .int .i64 hh, .slice a R.length ca, .slice b C.length cb] qs.length (zsOf qs) rs u4 sb1 wx ∧ OwnI wx w2.heap.size (.slice (some ⟨gq, 0, none⟩) p.length cq) (ints p) ∧ OwnI wx wr.heap.size (.slice a5 (nx ⟨ww, hh, R, C⟩ x).length c5) (ints (nx ⟨ww, hh, R, C⟩ x)))
              case first =>
                go_region_with (go_at_call 72; refine (impl_next ⟨ww, hh, R, C⟩ ww hh HG.out a b ca cb x _ (RowAt.below HCr.out HSd.out.b) hxl).mono ?_; rintro e w5 ⟨⟨v5, rfl, ho5⟩, hb5⟩; have HS5 := Lib.hid (HSd.out.below hb5); have HQ5 := Lib.hid (HQd.out.below hb5); obtain ⟨a5, c5, rfl, -, -⟩ := OwnI.slice ho5; rw [ints_length] at ho5; have HV5 := Lib.hid ho5; clear ho5 hb5; rw [ints_length])
                all_goals go_wp2_with fail
                all_goals go_meet
                all_goals exact ⟨a5, c5, rfl, rfl, rfl, HS5.out, HQ5.out, HV5.out⟩
              case rest =>
              obtain ⟨a5, c5, rfl, rfl, rfl, hS5, hQ5, hV5⟩ := hcut
              have HS5 := Lib.hid hS5
              have HQ5 := Lib.hid hQ5
              have HV5 := Lib.hid hV5
              have HLk := Lib.hid (show Look ⟨ww, hh, R, C⟩ (ww * hh) k p d x 0 from by have := Look.start HBf.out hdl; rwa [HX.out] at this)
              have HL5 := Lib.hid (show gq < wr.heap.size from hgq)
              clear hS5 hQ5 hV5 hcd hgq p0 p1 p2 p3 HSd HQd
              go_wp2_with fail
              have hnl := nx_length ⟨ww, hh, R, C⟩ x
              obtain ⟨B5, hB5⟩ : ∃ B, wr.heap.size = B := ⟨_, rfl⟩
              rw [hB5] at HV5 HL5
              clear hB5
              go_loopg [47, 7] (nx ⟨ww, hh, R, C⟩ x).length (fun q i vq wr' => ∃ j p sb, j ≤ (nx ⟨ww, hh, R, C⟩ x).length ∧ q = (nx ⟨ww, hh, R, C⟩ x).length - j ∧ i = .int .i64 (j : Nat) ∧ Look ⟨ww, hh, R, C⟩ (ww * hh) k p d x j ∧ Bits ⟨ww, hh, R, C⟩ (ww * hh) k p sb ∧ Srch w (w1.heap.size + 1) #[.int .i64 ww, .int .i64 hh, .slice a R.length ca, .slice b C.length cb] qs.length (zsOf qs) rs u4 sb wr' ∧ OwnI wr' w2.heap.size vq (ints p) ∧ OwnI wr' B5 (.slice a5 (nx ⟨ww, hh, R, C⟩ x).length c5) (ints (nx ⟨ww, hh, R, C⟩ x)) ∧ ∀ y z, vq.ownBlock = some y → (Value.slice a5 (nx ⟨ww, hh, R, C⟩ x).length c5).ownBlock = some z → y ≠ z)
              case atStart => exact ⟨0, p, sb1, Nat.zero_le _, rfl, rfl, HLk.out, HBs.out, HS5.out, HQ5.out, HV5.out, fun y z hy hz => by
                obtain rfl : gq = y := by simpa [Value.ownBlock] using hy
                have := (HV5.out.lt z hz).1
                have := HL5.out
                omega⟩
              case round =>
                clear HS5 HQ5 HV5 HLk HL5 HBs HBf HS4 HQ4
                obtain ⟨j, p1, sb2, hj, hq3, rfl, hlk, hbs, hS6, hQ6, hV6, hne6⟩ := hrel
                have HLk := Lib.hid hlk
                have HBs := Lib.hid hbs
                have HS6 := Lib.hid hS6
                have HQ6 := Lib.hid hQ6
                have HV6 := Lib.hid hV6
                have HNe := Lib.hid hne6
                have hpl1 : p1.length ≤ ww * hh := hlk.bfs.length HG.out HO.out
                have hd1 : d < p1.length := hlk.lt
                clear hlk hbs hS6 hQ6 hV6 hne6 hpl hp0 hd
                by_cases hjl : j < (nx ⟨ww, hh, R, C⟩ x).length
                · obtain ⟨g5, c5', e5⟩ := own_ints_slice HV6.out (by omega)
                  obtain ⟨rfl, -, rfl⟩ := Value.slice.inj e5
                  obtain ⟨y, hy⟩ : ∃ y, (nx ⟨ww, hh, R, C⟩ x).getD j 0 = y := ⟨_, rfl⟩
                  have hyl := (nx_lt HG.out hxl (getD_mem hjl)).1
                  have hcj := own_ints_cell HV6.out hjl
                  rw [hy] at hyl hcj
                  have HY := Lib.hid hy
                  have hg5 := (HV6.out.lt g5 (by simp [Value.ownBlock])).2
                  have hy36 : y < 36 := by omega
                  obtain ⟨s1, s2⟩ := seen_cell HS6.out.seen hy36
                  have hgs := HS6.out.seen.lt
                  clear hy e5
                  by_cases hs : sb2 y = true
                  · have HSk := Lib.hid (show Look ⟨ww, hh, R, C⟩ (ww * hh) k p1 d x (j + 1) from HLk.out.skip (by rw [HY.out]; exact (HBs.out y hy36).1 hs))
                    rw [hs] at s1
                    go_wp2_with fail
                    go_roundg ((nx ⟨ww, hh, R, C⟩ x).length - (j + 1))
                    case measure => omega
                    case rel => exact ⟨j + 1, p1, sb2, by omega, rfl, by go_num, HSk.out, HBs.out, HS6.out, HQ6.out, HV6.out, HNe.out⟩
                  · have hs' : sb2 y = false := by simpa using hs
                    have HPt := Lib.hid (show Look ⟨ww, hh, R, C⟩ (ww * hh) k (p1 ++ [y]) d x (j + 1) from by
                      have hno : ¬ (Seen ⟨ww, hh, R, C⟩ (ww * hh) k y ∨ y ∈ p1) := fun h => hs ((HBs.out y hy36).2 h)
                      have := HLk.out.put hjl (by rw [HY.out]; exact fun h => hno (.inl h)) (by rw [HY.out]; exact fun h => hno (.inr h))
                      rwa [HY.out] at this)
                    have HB7 := Lib.hid (HBs.out.put (y := y))
                    rw [hs'] at s1
                    have HS7 := Lib.hid (show Srch w (w1.heap.size + 1) #[.int .i64 ww, .int .i64 hh, .slice a R.length ca, .slice b C.length cb] qs.length (zsOf qs) rs u4 (setB sb2 y) ((wr.setCell ⟨w1.heap.size + 1, y, none⟩ (.bool true)).alloc (.cells #[.int .i64 y] 3)) from (HS6.out.set_ y).alloc _)
                    have HQ7 := Lib.hid (show OwnI ((wr.setCell ⟨w1.heap.size + 1, y, none⟩ (.bool true)).alloc (.cells #[.int .i64 y] 3)) w2.heap.size u7 (ints p1) from World.ownsRow.alloc (own_far HQ6.out HS6.out.seen (by decide) _) _)
                    have HV7 := Lib.hid (show OwnI ((wr.setCell ⟨w1.heap.size + 1, y, none⟩ (.bool true)).alloc (.cells #[.int .i64 y] 3)) B5 (.slice (some ⟨g5, 0, none⟩) (nx ⟨ww, hh, R, C⟩ x).length c5) (ints (nx ⟨ww, hh, R, C⟩ x)) from World.ownsRow.alloc (own_far HV6.out HS6.out.seen (by decide) _) _)
                    obtain ⟨gq1, cq1, eq1⟩ := own_ints_slice HQ6.out (by omega)
                    have hgq1 := HQ6.out.lt gq1 (by rw [eq1]; simp [Value.ownBlock])
                    clear eq1
                    have hown := own_ints_raw HQ7.out
                    have hsz2 := HS6.out.b.size
                    have h63 : p1.length + 1 ≤ maxLen := by unfold maxLen; omega
                    have h64 : (p1.length + 1) * 8 ≤ 140737488355328 := by omega
                    have hcn : ∀ (j : Nat) (u : Value), [Value.int .i64 (y : Nat)][j]? = some u → ((wr.setCell ⟨w1.heap.size + 1, y, none⟩ (.bool true)).alloc (.cells #[.int .i64 y] 3)).cell? ((⟨wr.heap.size, 0, none⟩ : Addr).add j) = some u := by
                      have := cell_one_new (wr.setCell ⟨w1.heap.size + 1, y, none⟩ (.bool true)) (.int .i64 y) 3
                      have e : (wr.setCell ⟨w1.heap.size + 1, y, none⟩ (.bool true)).heap.size = wr.heap.size := by simp
                      rwa [e] at this
                    clear hs hs'
                    go_wp2_with (at_builtin; (refine wpList_append_lies _ rfl (.tmp 57) (.tmp 59) 24 rfl w2.heap.size 3 t0 (.int .i64 0) 1 8 Try.underlying24 hi hz0 hz1 hz2 rfl (by decide) u7 p1.length _ rfl hown ⟨_, 0, none⟩ 1 1 [.int .i64 y] rfl rfl hcn (by simp [Value.oneCell']) (by decide) h63 h64 (by simp; omega) _ rfl ?_; intro g' cap' w3 hown3 hgr3 hlies3 _; have HS8 := Lib.hid (HS7.out.grown HSz.out HQ7.out HLow.out hgr3); have HQ8 := Lib.hid (own_ints_put hown3); have HV8 := Lib.hid (own_grown HV7.out hgr3 (fun x y hx hy => fun e => HNe.out y x hy hx e.symm)); have HN8 := Lib.hid hlies3; clear hown3 hgr3 hlies3))
                    go_roundg ((nx ⟨ww, hh, R, C⟩ x).length - (j + 1))
                    case measure => omega
                    case rel => exact ⟨j + 1, p1 ++ [y], setB sb2 y, by omega, rfl, by go_num, HPt.out, HB7.out, HS8.out, HQ8.out, HV8.out, fun y' z hy hz => by
                      obtain rfl : g' = y' := by simpa [Value.ownBlock] using hy
                      rcases HN8.out with h | h
                      · exact HNe.out g' z h hz
                      · obtain rfl : g5 = z := by simpa [Value.ownBlock] using hz
                        simp at h
                        omega⟩
                · obtain rfl : j = (nx ⟨ww, hh, R, C⟩ x).length := by omega
                  have HFl := Lib.hid (HLk.out.full (Nat.le_refl _))
                  go_wp2_with fail
                  go_roundg (ww * hh - (d + 1))
                  case measure => omega
                  case rel => exact ⟨d + 1, p1, sb2, by omega, rfl, by go_num, HFl.out, HBs.out, HS6.out, HQ6.out⟩
            · obtain rfl : d = p.length := by omega
              have HPart := Lib.hid (HBf.out.part HG.out HO.out (Nat.le_refl _))
              have HDone := Lib.hid (HBs.out.done HO.out (HBf.out.full HG.out HO.out (Nat.le_refl _)))
              have hsz4 := HS4.out.b.size
              have hgq := HQ4.out.lt gq (by simp [Value.ownBlock])
              go_wp2_with fail
              refine (sort_any w2.heap.size _ (ints p) _ HQ4.out (by rw [ints_length]; omega) (by omega)).mono ?_
              rintro e w6 ⟨rfl, ho6, hg6⟩
              rw [srt_ints] at ho6
              have HS6 := Lib.hid (HS4.out.grown HSz.out HQ4.out HLow.out hg6)
              have HQ6 := Lib.hid ho6
              have hsz6 := HS6.out.b.size
              clear ho6 hg6 HBf HBs
              have hPl := HPl.out
              have hown := HS6.out.own.tbl.alloc (.cells #[.slice (some ⟨gq, 0, none⟩) p.length cq] 24)
              go_wp2_with (at_builtin; (refine wpList_append_own _ rfl (.tmp 64) (.tmp 66) 42 rfl w.heap.size 24 t1 (.slice none 0 0) 1 24 Try.underlying42 ri rz0 rz1 rz2 rfl (by decide) u4 qs.length _ rfl hown ⟨_, 0, none⟩ 1 1 [.slice (some ⟨gq, 0, none⟩) p.length cq] rfl rfl (cell_one_new _ _ _) (by simp [Value.oneCell']) (by unfold maxLen; omega) (by omega) (by simp; omega) ?_; intro v' w7 hown7 hgr7 _; have HPush := Lib.hid ((HS6.out.alloc _).push (zs' := zsOf (qs ++ [srt p])) HSz.out (World.ownsRow.alloc HQ6.out _) HLow.out hown7 hgr7 (fun i hi => zsOf_old hi) (zsOf_new qs (srt p))); clear hown7 hgr7))
              go_roundg (ww * hh - (k + 1))
              case measure => omega
              case rel => exact ⟨k + 1, by omega, rfl, by go_num, qs ++ [srt p], _, sb1, .yes HP.out (heads_new HG.out HO.out HNS.out) HPart.out, HDone.out, by rw [show (qs ++ [srt p]).length = qs.length + 1 by simp]; exact HPush.out⟩
    · obtain rfl : k = ww * hh := by omega
      obtain rfl := HP.out.unique HPS.out
      have hnC : ¬ ww * hh < C.length := by have := HCl.out; omega
      go_wp2
      go_ret2
      exact ⟨u4, rs, rfl, HS.out.own, HS.out.b⟩

/-- The program's parts of a map. -/
theorem impl_yes (m : Mp) (ww hh : Nat) (g : GoodM m ww hh) (hok : m.ok) (a b : Option Addr) (ca cb : Nat) (w : World) (hr : IRow w a m.R) (hc : IRow w b m.C) (ps : List (List Nat)) (hps : PartsTo m (ww * hh) (ww * hh) ps) :
    Calls Try.prog 34 #[.agg #[.int .i64 m.W, .int .i64 m.H, .slice a m.R.length ca, .slice b m.C.length cb]] w (TPst w ps.length (zsOf ps) true) := by
  have e := Cells.mp_eq g
  obtain ⟨W, H, R, C⟩ := m
  cases e
  exact impl_raw ww hh R C a b ca cb w hok g hr hc ps hps

end Go.Proofs.Ytijcdnmcmngheaa.PrtI
