/- The text of a map: the program. -/
import Derived.Test.YtdphliobjafjaaaTextS
import Derived.Test.YtdphliobjafjaaaHigh
import Derived.Test.YtdphliobjafjaaaBld
namespace Go.Proofs.Ytdphliobjafjaaa.TextI
open Go.RowKit Lb IntS MapS MapV SpecB Bld TextS
set_option linter.unusedSimpArgs false
set_option linter.unusedVariables false

theorem Isb.later {b : Nat} {l : List UInt8} {w w' : World} (h : Isb b l w) (hb : Below w.heap.size w w') : Isb b l w' := by
  rcases h with h | h
  · obtain ⟨h1, v, h2, h3, h4⟩ := id h
    exact .inl ⟨h1, v, (hb.block b h.lt).trans h2, owns_below h3 hb, h4⟩
  · obtain ⟨h1, v, h2, h3, h4⟩ := id h
    exact .inr ⟨h1, v, (hb.block b h.lt).trans h2, owns_below h3 hb, h4⟩
theorem Isb.lt {b : Nat} {l : List UInt8} {w : World} (h : Isb b l w) : b < w.heap.size := by
  rcases h with h | h <;> exact h.lt
theorem forb_any (m : Mp) (a b : Option Addr) (ca cb : Nat) (c : Nat) (w : World) (hc : IRow w b m.C) (hl : c < m.C.length) (hm : m.C.length ≤ maxLen) :
    Calls Try.prog 59 #[.agg #[.int .i64 m.W, .int .i64 m.H, .slice a m.R.length ca, .slice b m.C.length cb], .int .i64 c] w fun e w' => e = .returned (.bool (decide (zAt m.C c = 0))) ∧ Below w.heap.size w w' := by
  by_cases h : zAt m.C c = 0
  · rw [decide_eq_true h]; exact High.forb_yes m a b ca cb c w hc hl hm h
  · rw [decide_eq_false h]; exact High.forb_no m a b ca cb c w hc hl hm h
theorem digit_any (b : Nat) (l : List UInt8) (z : Int) (w : World) (h : Isb b l w) (hlen : l.length ≤ 1000000) (hbw : b ≤ w.heap.size) (h0 : 0 ≤ z) (h9 : z ≤ 9) :
    Calls Try.prog 61 #[.pointer (some ⟨b, 0, none⟩), .int .u8 (48 + z)] w fun e w' => e = .returned .nilIface ∧ Isb b (l ++ [dg z]) w' ∧ Below b w w' := by
  have := byte_any b l (dg z) w h hlen hbw
  rw [dg_toNat h0 h9] at this
  exact this
theorem hash_any (b : Nat) (l : List UInt8) (w : World) (h : Isb b l w) (hlen : l.length ≤ 100000) (hbw : b ≤ w.heap.size) :
    Calls Try.prog 60 #[.pointer (some ⟨b, 0, none⟩), .string ⟨#[35, 35]⟩] w fun e w' => e = .returned (.tuple #[.int .i64 2, .nilIface]) ∧ Isb b (l ++ [35, 35]) w' ∧ Below b w w' :=
  text_any b l ⟨#[35, 35]⟩ w h (by simp [ByteArray.size]; omega) hbw
theorem sep_any (b : Nat) (l : List UInt8) (c : UInt8) (z : Int) (w : World) (h : Isb b l w) (hlen : l.length ≤ 1000000) (hbw : b ≤ w.heap.size) (hz : (c.toNat : Int) = z) :
    Calls Try.prog 61 #[.pointer (some ⟨b, 0, none⟩), .int .u8 z] w fun e w' => e = .returned .nilIface ∧ Isb b (l ++ [c]) w' ∧ Below b w w' := by
  subst hz
  exact byte_any b l c w h hlen hbw

set_option maxHeartbeats 1000000 in
theorem impl_no (m : Mp) (a b : Option Addr) (ca cb : Nat) (w : World) (hR : m.R.length ≤ maxLen) (hC : m.C.length ≤ maxLen) (hr : IRow w a m.R) (hc : IRow w b m.C) (h : ¬ m.ok) :
    Calls Try.prog 23 #[.agg #[.int .i64 m.W, .int .i64 m.H, .slice a m.R.length ca, .slice b m.C.length cb]] w fun e w' => TPost [] false e ∧ Below w.heap.size w w' := by
  have HB := Lib.hid ((Below.refl w.heap.size w).alloc (Nat.le_refl _) (.cells #[.int .i64 m.W, .int .i64 m.H, .slice a m.R.length ca, .slice b m.C.length cb] 26))
  have hk := okB_no h
  clear h
  go_enter Try.func23, Try.ntmps23
  go_wp2_with fail
  refine (MapV.impl_any m a b ca cb _ hR hC (RowAt.below hr HB.out) (RowAt.below hc HB.out)).mono ?_
  rw [hk]
  rintro e w1 ⟨rfl, hb1⟩
  go_wp2
  go_ret2
  exact ⟨rfl, HB.out.trans (hb1.mono (by simp))⟩

set_option maxRecDepth 100000 in
set_option maxHeartbeats 4000000 in
theorem impl_raw (ww hh : Nat) (R C : List Int) (a b : Option Addr) (ca cb : Nat) (w : World) (h : Mp.ok ⟨ww, hh, R, C⟩) (g : GoodM ⟨ww, hh, R, C⟩ ww hh) (hr : IRow w a R) (hc : IRow w b C) (f : Nat) (hf : f ≤ ww * hh) (hall : ∀ i, i < f → HasT ⟨ww, hh, R, C⟩ i) (hend : f = ww * hh ∨ ¬ HasT ⟨ww, hh, R, C⟩ f) :
    Calls Try.prog 23 #[.agg #[.int .i64 ww, .int .i64 hh, .slice a R.length ca, .slice b C.length cb]] w fun e w' => TPost (if f = ww * hh then txt ⟨ww, hh, R, C⟩ ww (ww * hh) else []) (decide (f = ww * hh)) e ∧ Below w.heap.size w w' := by
  have v1 := g.w1
  have v6 := g.w6
  have h1 := g.h1
  have h6 := g.h6
  have n36 := g.n36
  have hRl := g.R
  have hCl := g.C
  simp only at hRl hCl
  have HC := Lib.hid g.cell
  have HA := Lib.hid hall
  have HE := Lib.hid hend
  have HB := Lib.hid ((Below.refl w.heap.size w).alloc (Nat.le_refl _) (.cells #[.int .i64 ww, .int .i64 hh, .slice a R.length ca, .slice b C.length cb] 26))
  have HK := Lib.hid (Blk.new w 26 #[.int .i64 ww, .int .i64 hh, .slice a R.length ca, .slice b C.length cb])
  have hR : R.length ≤ maxLen := by unfold maxLen; omega
  have hC : C.length ≤ maxLen := by unfold maxLen; omega
  have HRC := Lib.hid (And.intro hRl hCl)
  have hk := okB_yes h
  clear hall hend g h hRl hCl
  go_enter Try.func23, Try.ntmps23
  go_wp2_with fail
  refine (MapV.impl_any ⟨ww, hh, R, C⟩ a b ca cb _ hR hC (RowAt.below hr HB.out) (RowAt.below hc HB.out)).mono ?_
  rw [hk]
  rintro e w1 ⟨rfl, hb1⟩
  have HB1 := Lib.hid (HB.out.trans (hb1.mono (by simp)))
  have HK1 := Lib.hid (HK.out.later hb1)
  have hw1 : w.heap.size < w1.heap.size := HK1.out.lt
  clear hb1 hk
  obtain ⟨p0, p1, p2, p3, -⟩ := HK1.out.four
  go_wp2_with fail
  clear p0 p1 p2 p3
  go_loopw [12, 5] (fun i _ wr => ∃ k : Nat, k ≤ f ∧ i = .int .i64 k ∧ Isb w1.heap.size (txt ⟨ww, hh, R, C⟩ ww k) wr ∧ Below w1.heap.size w1 wr) (fun i _ _ => f + 1 - (intOf i).toNat)
  case atStart => exact ⟨0, Nat.zero_le _, rfl, fresh w1, (Below.refl _ _).alloc (Nat.le_refl _) _⟩
  case round =>
    obtain ⟨k, hk, rfl, hisb, hb⟩ := hrel
    have hbr := HB1.out.trans (hb.mono HB1.out.size)
    have HBr := Lib.hid hbr
    have HKr := Lib.hid (HK1.out.below hb HK1.out.lt)
    have HBw := Lib.hid hb
    have HI := Lib.hid hisb
    have hlw : w1.heap.size < wr.heap.size := Isb.lt hisb
    have htl := txt_length ⟨ww, hh, R, C⟩ ww k
    clear hb hbr hisb
    by_cases hlt : k < ww * hh
    · have hltC : k < C.length := by have := HRC.out.2; omega
      have hltR : k < R.length := by have := HRC.out.1; omega
      obtain ⟨r1, r2, r3, r4⟩ := HC.out k hlt
      simp only at r1 r2 r3 r4
      have hcr := Lib.hid (RowAt.below hc HBr.out)
      obtain ⟨p0, p1, p2, p3, -⟩ := HKr.out.four
      go_upto_if 17 with (refine (forb_any ⟨ww, hh, R, C⟩ a b ca cb k _ hcr.out hltC hC).mono ?_; rintro e w2 ⟨rfl, hb2⟩; have HI2 := Lib.hid (Isb.later HI.out hb2); have HB2 := Lib.hid (HBw.out.trans (hb2.mono HBw.out.size)); have HK2 := Lib.hid (HKr.out.later hb2); have HBz := Lib.hid (HBr.out.trans (hb2.mono HBr.out.size)); have hl2 : w1.heap.size < w2.heap.size := Isb.lt HI2.out; clear hb2 p0 p1 p2 p3; obtain ⟨p0, p1, p2, p3, -⟩ := HK2.out.four)
      go_cut [] from 15 to 49 (fun wx => k + 1 ≤ f ∧ Isb w1.heap.size (txt ⟨ww, hh, R, C⟩ ww k ++ cellT ⟨ww, hh, R, C⟩ k) wx ∧ Below w1.heap.size w1 wx)
      case first =>
        rcases RowAt.below hr HBz.out with h0 | ⟨b1, off1, rfl, hr1⟩
        · omega
        have g1 := hr1 k hltR
        clear hr1
        by_cases ho : zAt C k = 0
        · have HCT := Lib.hid (show cellT ⟨ww, hh, R, C⟩ k = [35, 35] from by unfold cellT; rw [if_neg (show ¬ 0 < zAt C k by omega)])
          clear r3 r4
          by_cases hz : zAt R k = 0
          · have hcf : k + 1 ≤ f := by
              by_cases e : k = f
              · subst e
                rcases HE.out with h | h
                · omega
                · exact absurd (.inr hz) h
              · omega
            have hz' : (zAt R k != 0) = false := by simpa using hz
            clear hz
            go_wp2_with fail
            refine (hash_any _ _ _ HI2.out (by rw [htl]; omega) (by omega)).mono ?_
            rintro e w3 ⟨rfl, hi3, hb3⟩
            have HI3 := Lib.hid hi3
            have HB3 := Lib.hid (HB2.out.trans hb3)
            clear hi3 hb3
            go_wp2
            go_meet
            exact ⟨hcf, by rw [HCT.out]; exact HI3.out, HB3.out⟩
          · have hnt : ¬ HasT ⟨ww, hh, R, C⟩ k := fun h => by rcases h with h | h; (simp only at h; omega); exact hz h
            obtain rfl : k = f := by
              by_cases e : k = f
              · exact e
              · exact absurd (HA.out k (by omega)) hnt
            have hz' : (zAt R k != 0) = true := by simpa using hz
            have HF := Lib.hid (show ¬ k = ww * hh by omega)
            clear hnt hz
            go_wp2
            go_ret2
            refine ⟨?_, HB1.out.trans (HB2.out.mono HB1.out.size)⟩
            rfl
        · have hpos : 0 < zAt C k := by omega
          have HCT := Lib.hid (show cellT ⟨ww, hh, R, C⟩ k = [dg (zAt C k), dg (zAt R k)] from by unfold cellT; rw [if_pos hpos])
          have hcf : k + 1 ≤ f := by
            by_cases e : k = f
            · subst e
              rcases HE.out with h | h
              · omega
              · exact absurd (.inl hpos) h
            · omega
          rcases RowAt.below hc HBz.out with h0 | ⟨b2, off2, rfl, hc2⟩
          · omega
          have g2 := hc2 k hltC
          clear hc2
          go_wp2_with fail
          refine (digit_any _ _ _ _ HI2.out (by rw [htl]; omega) (by omega) (by omega) (by omega)).mono ?_
          rintro e w3 ⟨rfl, hi3, hb3⟩
          have HI3 := Lib.hid hi3
          have HB3 := Lib.hid (HB2.out.trans hb3)
          have HK3 := Lib.hid (HK2.out.below hb3 (by omega))
          rcases RowAt.below hr (HB1.out.trans (HB3.out.mono HB1.out.size)) with h0 | ⟨b1', off1', e1, hr1⟩
          · omega
          cases e1
          have g1 := hr1 k hltR
          have hl3 : w1.heap.size < w3.heap.size := Isb.lt HI3.out
          clear hi3 hb3 hr1 p0 p1 p2 p3 g2
          obtain ⟨p0, p1, p2, p3, -⟩ := HK3.out.four
          go_wp2_with fail
          refine (digit_any _ _ _ _ HI3.out (by rw [List.length_append, htl]; simp; omega) (by omega) (by omega) (by omega)).mono ?_
          rintro e w4 ⟨rfl, hi4, hb4⟩
          have HI4 := Lib.hid hi4
          have HB4 := Lib.hid (HB3.out.trans hb4)
          clear hi4 hb4
          go_wp2
          go_meet
          exact ⟨hcf, by rw [HCT.out]; have := HI4.out; rw [List.append_assoc] at this; exact this, HB4.out⟩
      case rest =>
      obtain ⟨hcf, hi5, hb5⟩ := hcut
      have HI5 := Lib.hid hi5
      have HB5 := Lib.hid hb5
      have HK5 := Lib.hid (HK1.out.below hb5 HK1.out.lt)
      have hl5 : w1.heap.size < wc.heap.size := Isb.lt hi5
      clear hi5 hb5 p0 p1 p2 p3
      obtain ⟨p0, p1, p2, p3, -⟩ := HK5.out.four
      have hctl := cellT_length ⟨ww, hh, R, C⟩ k
      obtain ⟨x, hx⟩ : ∃ x, (k + 1) % ww = x := ⟨_, rfl⟩
      have hxi : ((k : Int) + 1) % (ww : Int) = (x : Int) := by rw [← hx]; simp
      by_cases hlast : x = 0
      · have HZ := Lib.hid (show sepT ww k = 10 from by unfold sepT; rw [if_pos (by rw [hx]; exact hlast)])
        have hl1 : ((x : Int) == 0) = true := by simp; omega
        clear hx hlast
        go_wp2_with fail
        refine (sep_any _ _ 10 10 _ HI5.out (by rw [List.length_append, htl, hctl]; omega) (by omega) (by decide)).mono ?_
        rintro e w6 ⟨rfl, hi6, hb6⟩
        have HI6 := Lib.hid hi6
        have HB6 := Lib.hid (HB5.out.trans hb6)
        clear hi6 hb6
        go_wp2
        go_roundw
        case rel => exact ⟨k + 1, hcf, by go_num, by rw [txt, HZ.out]; exact HI6.out, HB6.out⟩
        case measure => simp [intOf]; omega
      · have HZ := Lib.hid (show sepT ww k = 32 from by unfold sepT; rw [if_neg (by rw [hx]; exact hlast)])
        have hl1 : ((x : Int) == 0) = false := by simp; omega
        clear hx hlast
        go_wp2_with fail
        refine (sep_any _ _ 32 32 _ HI5.out (by rw [List.length_append, htl, hctl]; omega) (by omega) (by decide)).mono ?_
        rintro e w6 ⟨rfl, hi6, hb6⟩
        have HI6 := Lib.hid hi6
        have HB6 := Lib.hid (HB5.out.trans hb6)
        clear hi6 hb6
        go_wp2
        go_roundw
        case rel => exact ⟨k + 1, hcf, by go_num, by rw [txt, HZ.out]; exact HI6.out, HB6.out⟩
        case measure => simp [intOf]; omega
    · obtain rfl : k = ww * hh := by omega
      obtain rfl : ww * hh = f := by omega
      have hltR : ¬ ww * hh < R.length := by have := HRC.out.1; omega
      go_wp2_with fail
      refine (string_any _ _ _ HI.out (by omega)).mono ?_
      rintro e w2 ⟨rfl, hb2⟩
      have HB2 := Lib.hid (HBw.out.trans hb2)
      clear hb2
      go_wp2
      go_ret2
      refine ⟨?_, HB1.out.trans (HB2.out.mono HB1.out.size)⟩
      rfl

set_option maxHeartbeats 1000000 in
theorem spec_no (m : Mp) (a b : Option Addr) (ca cb : Nat) (w : World) (hR : m.R.length ≤ maxLen) (hC : m.C.length ≤ maxLen) (hr : IRow w a m.R) (hc : IRow w b m.C) (h : ¬ m.ok) :
    Calls Try.prog 25 #[.agg #[.int .i64 m.W, .int .i64 m.H, .slice a m.R.length ca, .slice b m.C.length cb]] w fun e w' => TPost [] false e ∧ Below w.heap.size w w' := by
  have HB := Lib.hid ((Below.refl w.heap.size w).alloc (Nat.le_refl _) (.cells #[.int .i64 m.W, .int .i64 m.H, .slice a m.R.length ca, .slice b m.C.length cb] 26))
  have hk := okB_no h
  clear h
  go_enter Try.func25, Try.ntmps25
  go_wp2_with fail
  refine (MapV.spec_any m a b ca cb _ hR hC (RowAt.below hr HB.out) (RowAt.below hc HB.out)).mono ?_
  rw [hk]
  rintro e w1 ⟨rfl, hb1⟩
  go_wp2
  go_ret2
  exact ⟨rfl, HB.out.trans (hb1.mono (by simp))⟩

set_option maxHeartbeats 1000000 in
theorem spec_yes (m : Mp) (a b : Option Addr) (ca cb : Nat) (w : World) (hR : m.R.length ≤ maxLen) (hC : m.C.length ≤ maxLen) (hr : IRow w a m.R) (hc : IRow w b m.C) (h : m.ok) (l : List UInt8) (ok : Bool)
    (ht : ∀ w, IRow w a m.R → IRow w b m.C → Calls Try.prog 64 #[.agg #[.int .i64 m.W, .int .i64 m.H, .slice a m.R.length ca, .slice b m.C.length cb]] w fun e w' => TPost l ok e ∧ Below w.heap.size w w') :
    Calls Try.prog 25 #[.agg #[.int .i64 m.W, .int .i64 m.H, .slice a m.R.length ca, .slice b m.C.length cb]] w fun e w' => TPost l ok e ∧ Below w.heap.size w w' := by
  have HB := Lib.hid ((Below.refl w.heap.size w).alloc (Nat.le_refl _) (.cells #[.int .i64 m.W, .int .i64 m.H, .slice a m.R.length ca, .slice b m.C.length cb] 26))
  have HK := Lib.hid (Blk.new w 26 #[.int .i64 m.W, .int .i64 m.H, .slice a m.R.length ca, .slice b m.C.length cb])
  have hk := okB_yes h
  clear h
  go_enter Try.func25, Try.ntmps25
  go_wp2_with fail
  refine (MapV.spec_any m a b ca cb _ hR hC (RowAt.below hr HB.out) (RowAt.below hc HB.out)).mono ?_
  rw [hk]
  rintro e w1 ⟨rfl, hb1⟩
  have HB1 := Lib.hid (HB.out.trans (hb1.mono (by simp)))
  have HK1 := Lib.hid (HK.out.later hb1)
  clear hb1 hk
  obtain ⟨p0, p1, p2, p3, -⟩ := HK1.out.four
  go_wp2_with fail
  refine (ht _ (RowAt.below hr HB1.out) (RowAt.below hc HB1.out)).mono ?_
  rintro e w2 ⟨rfl, hb2⟩
  have HB2 := Lib.hid (HB1.out.trans (hb2.mono HB1.out.size))
  clear hb2
  go_wp2
  go_ret2
  exact ⟨rfl, HB2.out⟩

theorem first_bad (P : Nat → Prop) [DecidablePred P] : ∀ n, ∃ f, f ≤ n ∧ (∀ i, i < f → P i) ∧ (f = n ∨ ¬ P f)
  | 0 => ⟨0, Nat.le_refl _, (fun i h => absurd h (Nat.not_lt_zero _)), .inl rfl⟩
  | n + 1 => by
    obtain ⟨f, h1, h2, h3⟩ := first_bad P n
    rcases h3 with rfl | h3
    · by_cases h : P f
      · exact ⟨f + 1, Nat.le_refl _, (fun i hi => by rcases Nat.lt_succ_iff_lt_or_eq.1 hi with h | rfl; exact h2 i h; exact h), .inl rfl⟩
      · exact ⟨f, by omega, h2, .inr h⟩
    · exact ⟨f, by omega, h2, .inr h3⟩

set_option maxRecDepth 100000 in
/-- Both texts answer alike. -/
theorem both_v (m : Mp) : ∃ (l : List UInt8) (ok : Bool),
    (∀ a b ca cb w, m.R.length ≤ maxLen → m.C.length ≤ maxLen → IRow w a m.R → IRow w b m.C → Calls Try.prog 25 #[.agg #[.int .i64 m.W, .int .i64 m.H, .slice a m.R.length ca, .slice b m.C.length cb]] w fun e w' => e = .returned (.tuple #[.string (bs l), .bool ok]) ∧ Below w.heap.size w w') ∧
    (∀ a b ca cb w, m.R.length ≤ maxLen → m.C.length ≤ maxLen → IRow w a m.R → IRow w b m.C → Calls Try.prog 23 #[.agg #[.int .i64 m.W, .int .i64 m.H, .slice a m.R.length ca, .slice b m.C.length cb]] w fun e w' => e = .returned (.tuple #[.string (bs l), .bool ok]) ∧ Below w.heap.size w w') := by
  by_cases h : m.ok
  · obtain ⟨ww, hh, g⟩ := good_of h
    obtain ⟨W, H, R, C⟩ := m
    have e := mp_eq g
    injection e with e1 e2 _ _
    subst e1 e2
    obtain ⟨f, h1, h2, h3⟩ := first_bad (HasT ⟨ww, hh, R, C⟩) (ww * hh)
    refine ⟨if f = ww * hh then txt ⟨ww, hh, R, C⟩ ww (ww * hh) else [], decide (f = ww * hh), ?_, ?_⟩
    · intro a b ca cb w hR hC hr hc
      refine spec_yes ⟨ww, hh, R, C⟩ a b ca cb w hR hC hr hc h _ _ ?_
      intro w hr hc
      exact text_raw ww hh R C a b ca cb w g hr hc f h1 h2 h3
    · intro a b ca cb w hR hC hr hc
      exact impl_raw ww hh R C a b ca cb w h g hr hc f h1 h2 h3
  · exact ⟨[], false, fun a b ca cb w hR hC hr hc => spec_no m a b ca cb w hR hC hr hc h, fun a b ca cb w hR hC hr hc => impl_no m a b ca cb w hR hC hr hc h⟩

end Go.Proofs.Ytdphliobjafjaaa.TextI
