/- A class read from its text: the program; both. -/
import Derived.Test.YtleoljnofdajfaaGreatDoorRpM
import Derived.Deep.RegionHeld3
import Derived.Test.YtleoljnofdajfaaGreatDoorKpM
namespace Go.Proofs.YtleoljnofdajfaaGreatDoor.RpS
open Go.RowKit Lb Bk InA Wd RuK RuI Fmt NumM RuT PfM PfI Rd RpM
open L1S (NewStrs)
set_option linter.unusedSimpArgs false
set_option linter.unusedVariables false

theorem mk_is {s : ByteArray} (hs : s.size ≤ 1048576) : Is (mk (parts s 32)) := by
  have ht := parts_total s 32
  have h1 := sAt_le (parts s 32) 1
  have h3 := sAt_le (parts s 32) 3
  exact ⟨show (sAt (parts s 32) 1).size ≤ maxLen from by unfold maxLen; omega, show (sAt (parts s 32) 3).size ≤ maxLen from by unfold maxLen; omega⟩
theorem ans_no {s : ByteArray} (h : okS s = false) : ansR s = no := by unfold ansR; rw [h]; rfl
theorem ans_yes {s : ByteArray} (h : okS s = true) : ansR s = canR s := by unfold ansR; rw [h]; rfl

theorem blk_zero {w : World} {g : Nat} {t : TypeId} {x : Ru} (h : Blk w g t #[.int .i64 x.id, .string x.nm, .string x.cl, .int .i64 x.bo, .bool x.wo, .int .i64 x.ca]) : Blk ((((((w.setCell ⟨g, 0, none⟩ (.int .i64 0)).setCell ⟨g, 1, none⟩ (.string ⟨#[]⟩)).setCell ⟨g, 2, none⟩ (.string ⟨#[]⟩)).setCell ⟨g, 3, none⟩ (.int .i64 0)).setCell ⟨g, 4, none⟩ (.bool false)).setCell ⟨g, 5, none⟩ (.int .i64 0)) g t #[.int .i64 no.id, .string no.nm, .string no.cl, .int .i64 no.bo, .bool no.wo, .int .i64 no.ca] ∧ ∀ B, B ≤ g → Below B w ((((((w.setCell ⟨g, 0, none⟩ (.int .i64 0)).setCell ⟨g, 1, none⟩ (.string ⟨#[]⟩)).setCell ⟨g, 2, none⟩ (.string ⟨#[]⟩)).setCell ⟨g, 3, none⟩ (.int .i64 0)).setCell ⟨g, 4, none⟩ (.bool false)).setCell ⟨g, 5, none⟩ (.int .i64 0)) := blk_all h no

/-- What stands while a runner is put together: the box of the answer, the new runner, the words. -/
structure PS (w w2 wx : World) (ws : List ByteArray) (g2 : Nat) (m : Ru) : Prop where
  D : Below w.heap.size w wx
  K : Blk wx w2.heap.size 35 #[.int .i64 m.id, .string m.nm, .string m.cl, .int .i64 m.bo, .bool m.wo, .int .i64 m.ca]
  Q : Blk wx w.heap.size 35 #[.int .i64 no.id, .string no.nm, .string no.cl, .int .i64 no.bo, .bool no.wo, .int .i64 no.ca]
  R : StrRow wx (some ⟨g2, 0, none⟩) ws
  lt : w.heap.size < w2.heap.size
  g : g2 < w2.heap.size
theorem PS.later {w w2 wx w' : World} {ws : List ByteArray} {g2 : Nat} {m : Ru} (h : PS w w2 wx ws g2 m) (hb : Below wx.heap.size wx w') : PS w w2 w' ws g2 m :=
  ⟨h.D.trans (hb.mono h.D.size), h.K.later hb, h.Q.later hb, RowAt.below h.R hb, h.lt, h.g⟩
theorem row_set {wx : World} {g2 B k : Nat} {ws : List ByteArray} (h : StrRow wx (some ⟨g2, 0, none⟩) ws) (hg : g2 < B) (v : Value) : StrRow (wx.setCell ⟨B, k, none⟩ v) (some ⟨g2, 0, none⟩) ws := by
  rcases h with h | ⟨b, off, e, hc⟩
  · exact .inl h
  · cases e
    exact .inr ⟨g2, 0, rfl, fun j hj => ((Below.refl B wx).setCell (p := ⟨B, k, none⟩) (Nat.le_refl _) v).cell (p := ⟨g2, 0 + j, none⟩) hg |>.trans (hc j hj)⟩
theorem PS.set0 {w w2 wx : World} {ws : List ByteArray} {g2 : Nat} {m : Ru} (h : PS w w2 wx ws g2 m) (z : Int) : PS w w2 (wx.setCell ⟨w2.heap.size, 0, none⟩ (.int .i64 z)) ws g2 ⟨z, m.nm, m.cl, m.bo, m.wo, m.ca⟩ :=
  ⟨h.D.setCell (p := ⟨w2.heap.size, 0, none⟩) (Nat.le_of_lt h.lt) _, by simpa using Blk.set_ h.K 0 (.int .i64 z), h.Q.far (p := ⟨w2.heap.size, 0, none⟩) (Nat.ne_of_lt h.lt) _, row_set h.R h.g _, h.lt, h.g⟩
theorem PS.set3 {w w2 wx : World} {ws : List ByteArray} {g2 : Nat} {m : Ru} (h : PS w w2 wx ws g2 m) (z : Int) : PS w w2 (wx.setCell ⟨w2.heap.size, 3, none⟩ (.int .i64 z)) ws g2 ⟨m.id, m.nm, m.cl, z, m.wo, m.ca⟩ :=
  ⟨h.D.setCell (p := ⟨w2.heap.size, 3, none⟩) (Nat.le_of_lt h.lt) _, by simpa using Blk.set_ h.K 3 (.int .i64 z), h.Q.far (p := ⟨w2.heap.size, 3, none⟩) (Nat.ne_of_lt h.lt) _, row_set h.R h.g _, h.lt, h.g⟩
theorem PS.set5 {w w2 wx : World} {ws : List ByteArray} {g2 : Nat} {m : Ru} (h : PS w w2 wx ws g2 m) (z : Int) : PS w w2 (wx.setCell ⟨w2.heap.size, 5, none⟩ (.int .i64 z)) ws g2 ⟨m.id, m.nm, m.cl, m.bo, m.wo, z⟩ :=
  ⟨h.D.setCell (p := ⟨w2.heap.size, 5, none⟩) (Nat.le_of_lt h.lt) _, by simpa using Blk.set_ h.K 5 (.int .i64 z), h.Q.far (p := ⟨w2.heap.size, 5, none⟩) (Nat.ne_of_lt h.lt) _, row_set h.R h.g _, h.lt, h.g⟩

end Go.Proofs.YtleoljnofdajfaaGreatDoor.RpS

namespace Go.Proofs.YtleoljnofdajfaaGreatDoor.KpS
open Go.RowKit Lb Bk InA Wd KlK KlI Fmt NumM KtT PfM PfI Rd KpM
open RpS (row_set)
open L1S (NewStrs)
set_option linter.unusedSimpArgs false
set_option linter.unusedVariables false

theorem blk_zero {w : World} {g : Nat} {t : TypeId} {x : Kl} (h : Blk w g t #[.int .i64 x.id, .string x.nm, .int .i64 x.lo, .int .i64 x.hi, .bool x.wo, .bool x.me, .int .i64 x.co, .int .i64 x.mo]) : Blk ((((((((w.setCell ⟨g, 0, none⟩ (.int .i64 0)).setCell ⟨g, 1, none⟩ (.string ⟨#[]⟩)).setCell ⟨g, 2, none⟩ (.int .i64 0)).setCell ⟨g, 3, none⟩ (.int .i64 0)).setCell ⟨g, 4, none⟩ (.bool false)).setCell ⟨g, 5, none⟩ (.bool false)).setCell ⟨g, 6, none⟩ (.int .i64 0)).setCell ⟨g, 7, none⟩ (.int .i64 0)) g t #[.int .i64 no.id, .string no.nm, .int .i64 no.lo, .int .i64 no.hi, .bool no.wo, .bool no.me, .int .i64 no.co, .int .i64 no.mo] ∧ ∀ B, B ≤ g → Below B w ((((((((w.setCell ⟨g, 0, none⟩ (.int .i64 0)).setCell ⟨g, 1, none⟩ (.string ⟨#[]⟩)).setCell ⟨g, 2, none⟩ (.int .i64 0)).setCell ⟨g, 3, none⟩ (.int .i64 0)).setCell ⟨g, 4, none⟩ (.bool false)).setCell ⟨g, 5, none⟩ (.bool false)).setCell ⟨g, 6, none⟩ (.int .i64 0)).setCell ⟨g, 7, none⟩ (.int .i64 0)) := blk_all h no

/-- What stands while a class is put together: the box of the answer, the new class, the words, the ages. -/
structure PS (w : World) (B : Nat) (wx : World) (ws ag : List ByteArray) (g2 g3 : Nat) (m : Kl) : Prop where
  D : Below w.heap.size w wx
  K : Blk wx B 25 #[.int .i64 m.id, .string m.nm, .int .i64 m.lo, .int .i64 m.hi, .bool m.wo, .bool m.me, .int .i64 m.co, .int .i64 m.mo]
  Q : Blk wx w.heap.size 25 #[.int .i64 no.id, .string no.nm, .int .i64 no.lo, .int .i64 no.hi, .bool no.wo, .bool no.me, .int .i64 no.co, .int .i64 no.mo]
  R : StrRow wx (some ⟨g2, 0, none⟩) ws
  A : StrRow wx (some ⟨g3, 0, none⟩) ag
  lt : w.heap.size < B
  g : g2 < B
  h : g3 < B
theorem PS.later {w wx w' : World} {B : Nat} {ws ag : List ByteArray} {g2 g3 : Nat} {m : Kl} (h : PS w B wx ws ag g2 g3 m) (hb : Below wx.heap.size wx w') : PS w B w' ws ag g2 g3 m :=
  ⟨h.D.trans (hb.mono h.D.size), h.K.later hb, h.Q.later hb, RowAt.below h.R hb, RowAt.below h.A hb, h.lt, h.g, h.h⟩
theorem PS.set0 {w wx : World} {B : Nat} {ws ag : List ByteArray} {g2 g3 : Nat} {m : Kl} (h : PS w B wx ws ag g2 g3 m) (z : Int) : PS w B (wx.setCell ⟨B, 0, none⟩ (.int .i64 z)) ws ag g2 g3 ⟨z, m.nm, m.lo, m.hi, m.wo, m.me, m.co, m.mo⟩ :=
  ⟨h.D.setCell (p := ⟨B, 0, none⟩) (Nat.le_of_lt h.lt) _, by simpa using Blk.set_ h.K 0 (.int .i64 z), h.Q.far (p := ⟨B, 0, none⟩) (Nat.ne_of_lt h.lt) _, row_set h.R h.g _, row_set h.A h.h _, h.lt, h.g, h.h⟩
theorem PS.set2 {w wx : World} {B : Nat} {ws ag : List ByteArray} {g2 g3 : Nat} {m : Kl} (h : PS w B wx ws ag g2 g3 m) (z : Int) : PS w B (wx.setCell ⟨B, 2, none⟩ (.int .i64 z)) ws ag g2 g3 ⟨m.id, m.nm, z, m.hi, m.wo, m.me, m.co, m.mo⟩ :=
  ⟨h.D.setCell (p := ⟨B, 2, none⟩) (Nat.le_of_lt h.lt) _, by simpa using Blk.set_ h.K 2 (.int .i64 z), h.Q.far (p := ⟨B, 2, none⟩) (Nat.ne_of_lt h.lt) _, row_set h.R h.g _, row_set h.A h.h _, h.lt, h.g, h.h⟩
theorem PS.set3 {w wx : World} {B : Nat} {ws ag : List ByteArray} {g2 g3 : Nat} {m : Kl} (h : PS w B wx ws ag g2 g3 m) (z : Int) : PS w B (wx.setCell ⟨B, 3, none⟩ (.int .i64 z)) ws ag g2 g3 ⟨m.id, m.nm, m.lo, z, m.wo, m.me, m.co, m.mo⟩ :=
  ⟨h.D.setCell (p := ⟨B, 3, none⟩) (Nat.le_of_lt h.lt) _, by simpa using Blk.set_ h.K 3 (.int .i64 z), h.Q.far (p := ⟨B, 3, none⟩) (Nat.ne_of_lt h.lt) _, row_set h.R h.g _, row_set h.A h.h _, h.lt, h.g, h.h⟩
theorem PS.set6 {w wx : World} {B : Nat} {ws ag : List ByteArray} {g2 g3 : Nat} {m : Kl} (h : PS w B wx ws ag g2 g3 m) (z : Int) : PS w B (wx.setCell ⟨B, 6, none⟩ (.int .i64 z)) ws ag g2 g3 ⟨m.id, m.nm, m.lo, m.hi, m.wo, m.me, z, m.mo⟩ :=
  ⟨h.D.setCell (p := ⟨B, 6, none⟩) (Nat.le_of_lt h.lt) _, by simpa using Blk.set_ h.K 6 (.int .i64 z), h.Q.far (p := ⟨B, 6, none⟩) (Nat.ne_of_lt h.lt) _, row_set h.R h.g _, row_set h.A h.h _, h.lt, h.g, h.h⟩
theorem PS.set7 {w wx : World} {B : Nat} {ws ag : List ByteArray} {g2 g3 : Nat} {m : Kl} (h : PS w B wx ws ag g2 g3 m) (z : Int) : PS w B (wx.setCell ⟨B, 7, none⟩ (.int .i64 z)) ws ag g2 g3 ⟨m.id, m.nm, m.lo, m.hi, m.wo, m.me, m.co, z⟩ :=
  ⟨h.D.setCell (p := ⟨B, 7, none⟩) (Nat.le_of_lt h.lt) _, by simpa using Blk.set_ h.K 7 (.int .i64 z), h.Q.far (p := ⟨B, 7, none⟩) (Nat.ne_of_lt h.lt) _, row_set h.R h.g _, row_set h.A h.h _, h.lt, h.g, h.h⟩

set_option maxRecDepth 20000 in
set_option maxHeartbeats 2000000 in
theorem spec_any (s : ByteArray) (hs : s.size ≤ 1048576) (w : World) :
    Calls Tryz.prog 11 #[.string s] w fun e w' => e = .returned (.tuple #[.agg #[.int .i64 (ansK s).id, .string (ansK s).nm, .int .i64 (ansK s).lo, .int .i64 (ansK s).hi, .bool (ansK s).wo, .bool (ansK s).me, .int .i64 (ansK s).co, .int .i64 (ansK s).mo], .bool (okS s)]) ∧ Below w.heap.size w w' := by
  have hB0 := Lib.hid ((Below.refl w.heap.size w).alloc (Nat.le_refl _) (.cells #[.int .i64 no.id, .string no.nm, .int .i64 no.lo, .int .i64 no.hi, .bool no.wo, .bool no.me, .int .i64 no.co, .int .i64 no.mo] 25))
  have hK0 := Lib.hid (Blk.new w 25 #[.int .i64 no.id, .string no.nm, .int .i64 no.lo, .int .i64 no.hi, .bool no.wo, .bool no.me, .int .i64 no.co, .int .i64 no.mo])
  have HIS := Lib.hid (mkS_is hs (parts (sAt (parts s 32) 2) 45))
  obtain ⟨r, hr⟩ : ∃ r, ansK s = r := ⟨_, rfl⟩
  obtain ⟨ok, hok⟩ : ∃ ok, okS s = ok := ⟨_, rfl⟩
  have HR := Lib.hid hr
  have HO := Lib.hid hok
  rw [hr, hok]
  clear hr hok
  go_enter Tryz.func11, Tryz.ntmps11
  go_wp2_with fail
  refine (L1S.l1Split_any s 32 _ hs).mono ?_
  rintro e w2 ⟨v, rfl, ho, hb2⟩
  have hwl := parts_length s 32
  have hwt := parts_total s 32
  have z0 := sAt_le (parts s 32) 0
  have z2 := sAt_le (parts s 32) 2
  have z5 := sAt_le (parts s 32) 5
  have z7 := sAt_le (parts s 32) 7
  obtain ⟨ws, hws⟩ : ∃ ws, parts s 32 = ws := ⟨_, rfl⟩
  rw [hws] at ho hwl hwt z0 z2 z5 z7
  obtain ⟨g2, c2, rfl, hr2, hc2⟩ := own_strs0 ho hwl.2
  have HWS := Lib.hid hws
  have hB2 := Lib.hid (hB0.out.trans (hb2.mono hB0.out.size))
  have hK2 := Lib.hid (hK0.out.later hb2)
  have hR2 := Lib.hid hr2
  obtain ⟨n, hn⟩ : ∃ n, ws.length = n := ⟨_, rfl⟩
  have HN := Lib.hid hn
  rw [hn] at hwl hwt hc2 ⊢
  clear hb2 ho hr2 hws hB0 hK0 hn
  by_cases hbad : 60 < s.size ∨ n ≠ 8
  · obtain ⟨⟨b0, b1, b2, b3, b4, b5, b6, b7⟩, f0, f1, f2, f3, f4, f5, f6, f7⟩ := blk_cells hK2.out
    have h1 : ok = false := by
      rw [← HO.out]; unfold okS; rw [HWS.out, HN.out, decide_eq_false (by omega)]; rfl
    have h2 : r = no := by rw [← HR.out]; exact ans_no (by rw [HO.out, h1])
    subst h1 h2
    clear hwl hwt z0 z2 z5 z7
    by_cases h60 : 60 < s.size
    · clear hbad
      go_wp2
      clear b0 b1 b2 b3 b4 b5 b6 b7 f0 f1 f2 f3 f4 f5 f6 f7
      have hz := blk_zero hK2.out
      have HB9 := Lib.hid (hB2.out.trans (hz.2 w.heap.size (Nat.le_refl _)))
      replace hz := hz.1
      generalize (((((((w2.setCell _ _).setCell _ _).setCell _ _).setCell _ _).setCell _ _).setCell _ _).setCell _ _).setCell _ _ = w9 at *
      obtain ⟨⟨u0, u1, u2, u3, u4, u5, u6, u7⟩, -⟩ := blk_cells hz
      refine bodyPost_ret (v := .tuple #[.agg #[.int .i64 no.id, .string no.nm, .int .i64 no.lo, .int .i64 no.hi, .bool no.wo, .bool no.me, .int .i64 no.co, .int .i64 no.mo], .bool false]) (by simp [results, Tryz.results11, go_sem, u0, u1, u2, u3, u4, u5, u6, u7]) rfl ⟨rfl, HB9.out⟩
    · have e8 : ((n : Int) != 8) = true := by simp; omega
      have e60 : decide (60 < (s.size : Int)) = false := by simp; omega
      clear hbad h60
      go_wp2
      clear b0 b1 b2 b3 b4 b5 b6 b7 f0 f1 f2 f3 f4 f5 f6 f7
      have hz := blk_zero hK2.out
      have HB9 := Lib.hid (hB2.out.trans (hz.2 w.heap.size (Nat.le_refl _)))
      replace hz := hz.1
      generalize (((((((w2.setCell _ _).setCell _ _).setCell _ _).setCell _ _).setCell _ _).setCell _ _).setCell _ _).setCell _ _ = w9 at *
      obtain ⟨⟨u0, u1, u2, u3, u4, u5, u6, u7⟩, -⟩ := blk_cells hz
      refine bodyPost_ret (v := .tuple #[.agg #[.int .i64 no.id, .string no.nm, .int .i64 no.lo, .int .i64 no.hi, .bool no.wo, .bool no.me, .int .i64 no.co, .int .i64 no.mo], .bool false]) (by simp [results, Tryz.results11, go_sem, u0, u1, u2, u3, u4, u5, u6, u7]) rfl ⟨rfl, HB9.out⟩
  · obtain rfl : n = 8 := by omega
    have e60 : decide (60 < (s.size : Int)) = false := by simp; omega
    have hs60 : s.size ≤ 60 := by omega
    have Z0 := Lib.hid (show (sAt ws 0).size ≤ 1048576 from by omega)
    have Z2 := Lib.hid (show (sAt ws 2).size ≤ 1048576 from by omega)
    have Z5 := Lib.hid (show (sAt ws 5).size ≤ 1048576 from by omega)
    have Z7 := Lib.hid (show (sAt ws 7).size ≤ 1048576 from by omega)
    have d2 := row_at hR2.out 2 (by rw [HN.out]; omega)
    clear hbad hwl hwt z0 z2 z5 z7
    go_wp2_with fail
    clear d2
    refine (L1S.l1Split_any (sAt ws 2) 45 _ Z2.out).mono ?_
    rintro e w3 ⟨v, rfl, ho, hb3⟩
    have hal := parts_length (sAt ws 2) 45
    have y0 := sAt_le (parts (sAt ws 2) 45) 0
    have y1 := sAt_le (parts (sAt ws 2) 45) 1
    have hat := parts_total (sAt ws 2) 45
    obtain ⟨ag, hag⟩ : ∃ ag, parts (sAt ws 2) 45 = ag := ⟨_, rfl⟩
    rw [hag] at ho hal hat y0 y1
    obtain ⟨g3, c3, rfl, hr3, hc3⟩ := own_strs0 ho hal.2
    have HAG := Lib.hid hag
    have hB3 := Lib.hid (hB2.out.trans (hb3.mono hB2.out.size))
    have hK3 := Lib.hid (hK2.out.later hb3)
    have hR3 := Lib.hid (RowAt.below hR2.out hb3)
    have hA3 := Lib.hid hr3
    obtain ⟨n, hn⟩ : ∃ n, ag.length = n := ⟨_, rfl⟩
    have HNA := Lib.hid hn
    rw [hn] at hal hat hc3 ⊢
    have Z2' := Z2.out
    have Y0 := Lib.hid (show (sAt ag 0).size ≤ 1048576 from by omega)
    have Y1 := Lib.hid (show (sAt ag 1).size ≤ 1048576 from by omega)
    clear hb3 ho hr3 hag hn hB2 hK2 hR2 hal hat y0 y1 Z2'
    by_cases h2' : n = 2
    case neg =>
      have h1 : ok = false := by
        rw [← HO.out]; unfold okS; rw [HWS.out, HAG.out, HNA.out, decide_eq_false (by omega)]; rfl
      have h2 : r = no := by rw [← HR.out]; exact ans_no (by rw [HO.out, h1])
      have e2 : ((n : Int) != 2) = true := by simp; omega
      subst h1 h2
      clear h2'
      obtain ⟨⟨b0, b1, b2, b3, b4, b5, b6, b7⟩, f0, f1, f2, f3, f4, f5, f6, f7⟩ := blk_cells hK3.out
      go_wp2
      clear b0 b1 b2 b3 b4 b5 b6 b7 f0 f1 f2 f3 f4 f5 f6 f7
      have hz := blk_zero hK3.out
      have HB9 := Lib.hid (hB3.out.trans (hz.2 w.heap.size (Nat.le_refl _)))
      replace hz := hz.1
      generalize (((((((w3.setCell _ _).setCell _ _).setCell _ _).setCell _ _).setCell _ _).setCell _ _).setCell _ _).setCell _ _ = w9 at *
      obtain ⟨⟨u0, u1, u2, u3, u4, u5, u6, u7⟩, -⟩ := blk_cells hz
      refine bodyPost_ret (v := .tuple #[.agg #[.int .i64 no.id, .string no.nm, .int .i64 no.lo, .int .i64 no.hi, .bool no.wo, .bool no.me, .int .i64 no.co, .int .i64 no.mo], .bool false]) (by simp [results, Tryz.results11, go_sem, u0, u1, u2, u3, u4, u5, u6, u7]) rfl ⟨rfl, HB9.out⟩
    subst h2'
    have hlen := Lib.hid (show decide (s.size ≤ 60 ∧ (parts s 32).length = 8 ∧ (parts (sAt (parts s 32) 2) 45).length = 2) = true from decide_eq_true ⟨hs60, by rw [HWS.out, HN.out], by rw [HWS.out, HAG.out, HNA.out]⟩)
    clear hs60
    have d1 := row_at hR3.out 1 (by rw [HN.out]; omega)
    have d3 := row_at hR3.out 3 (by rw [HN.out]; omega)
    have HM := Lib.hid (show canS s = ⟨(val (sAt ws 0)).getD 0, sAt ws 1, (val (sAt ag 0)).getD 0, (val (sAt ag 1)).getD 0, !(decide (sAt ws 3 = KpM.bM)), !(decide (sAt ws 3 = KpM.bW)), (val (sAt ws 5)).getD 0, (val (sAt ws 7)).getD 0⟩ from by unfold canS mkS vz; rw [HWS.out, HAG.out])
    obtain ⟨x1, hx1⟩ : ∃ x, sAt ws 1 = x := ⟨_, rfl⟩
    obtain ⟨x3, hx3⟩ : ∃ x, sAt ws 3 = x := ⟨_, rfl⟩
    obtain ⟨m3, hm3⟩ : ∃ b, decide (x3 = KpM.bM) = b := ⟨_, rfl⟩
    obtain ⟨w3b, hw3b⟩ : ∃ b, decide (x3 = KpM.bW) = b := ⟨_, rfl⟩
    have qm : (x3.toList == [109]) = m3 := by rw [KpM.mq, hm3]
    have qw : (x3.toList == [119]) = w3b := by rw [KpM.wq, hw3b]
    obtain ⟨n0, hn0⟩ : ∃ z, (val (sAt ws 0)).getD 0 = z := ⟨_, rfl⟩
    obtain ⟨n5, hn5⟩ : ∃ z, (val (sAt ws 5)).getD 0 = z := ⟨_, rfl⟩
    obtain ⟨n7, hn7⟩ : ∃ z, (val (sAt ws 7)).getD 0 = z := ⟨_, rfl⟩
    obtain ⟨na, hna⟩ : ∃ z, (val (sAt ag 0)).getD 0 = z := ⟨_, rfl⟩
    obtain ⟨nb, hnb⟩ : ∃ z, (val (sAt ag 1)).getD 0 = z := ⟨_, rfl⟩
    rw [hx1] at d1 HM
    rw [hx3] at d3 HM
    rw [hm3, hw3b, hn0, hn5, hn7, hna, hnb] at HM
    have HN0 := Lib.hid hn0
    have HN5 := Lib.hid hn5
    have HN7 := Lib.hid hn7
    have HNa := Lib.hid hna
    have HNb := Lib.hid hnb
    have HBK := Lib.hid hK3.out.lt
    have HG3 := Lib.hid (World.block_lt_of_cell? w3 _ (row_at hA3.out 0 (by rw [HNA.out]; omega)))
    clear hx1 hx3 hm3 hw3b hn0 hn5 hn7 hna hnb
    go_upto_region 7 with (fail)
    have hg2 : g2 < w3.heap.size := World.block_lt_of_cell? w3 _ d1
    have HZ := Lib.hid (Blk.new w3.drew 25 #[.int .i64 no.id, .string no.nm, .int .i64 no.lo, .int .i64 no.hi, .bool no.wo, .bool no.me, .int .i64 no.co, .int .i64 no.mo])
    have HBz := Lib.hid ((Below.refl w3.heap.size w3).drew.alloc (Nat.le_refl _) (.cells #[.int .i64 no.id, .string no.nm, .int .i64 no.lo, .int .i64 no.hi, .bool no.wo, .bool no.me, .int .i64 no.co, .int .i64 no.mo] 25))
    refine wp_region_noPanic ?_
    refine wp_region_held_drew (S := (fun Wx : World => Wx.cell? ⟨g2, 1, none⟩ = some (.string x1) ∧ Wx.cell? ⟨g2, 3, none⟩ = some (.string x3))) (by kernel_rfl) ⟨d1, d3⟩ (fun hHeld => ?_)
    refine wpAnyH_take (i := 0) (oi := _) (v := ?_) rfl (by kernel_rfl) (by kernel_rfl) (by kernel_rfl) (fun _ _ _ h => h) (Or.inl ⟨by rfl, ?_⟩) (by assumption) ?_; rotate_left; focus (intro W hSw; (try dsimp only at hSw); go_simp; (first | done | with_reducible rfl))
    (try simp only [List.getElem_toArray, List.getElem_cons_succ, List.getElem_cons_zero, Act.put, List.setIfInBounds_toArray, List.set_cons_zero, List.set_cons_succ])
    refine wpAnyH_take (i := 1) (oi := _) (v := ?_) rfl (by kernel_rfl) (by kernel_rfl) (by kernel_rfl) (fun _ _ _ h => h) (Or.inl ⟨by rfl, ?_⟩) (by assumption) ?_; rotate_left; focus (intro W hSw; (try dsimp only at hSw); go_simp; (first | done | with_reducible rfl))
    (try simp only [List.getElem_toArray, List.getElem_cons_succ, List.getElem_cons_zero, Act.put, List.setIfInBounds_toArray, List.set_cons_zero, List.set_cons_succ])
    refine wpAnyH_take (i := 2) (oi := _) (v := ?_) rfl (by kernel_rfl) (by kernel_rfl) (by kernel_rfl) (fun _ _ _ h => h) (Or.inl ⟨by rfl, ?_⟩) (by assumption) ?_; rotate_left; focus (intro W hSw; (try dsimp only at hSw); go_simp; (first | done | with_reducible rfl))
    (try simp only [List.getElem_toArray, List.getElem_cons_succ, List.getElem_cons_zero, Act.put, List.setIfInBounds_toArray, List.set_cons_zero, List.set_cons_succ])
    refine wpAnyH_take (i := 3) (oi := _) (v := ?_) rfl (by kernel_rfl) (by kernel_rfl) (by kernel_rfl) (fun _ _ _ h => h) (Or.inl ⟨by rfl, ?_⟩) (by assumption) ?_; rotate_left; focus (intro W hSw; (try dsimp only at hSw); go_simp; (first | done | with_reducible rfl))
    (try simp only [List.getElem_toArray, List.getElem_cons_succ, List.getElem_cons_zero, Act.put, List.setIfInBounds_toArray, List.set_cons_zero, List.set_cons_succ])
    refine wpAnyH_take (i := 4) (oi := _) (v := ?_) rfl (by kernel_rfl) (by kernel_rfl) (by kernel_rfl) (fun _ _ _ h => h) (Or.inl ⟨by rfl, ?_⟩) (by assumption) ?_; rotate_left; focus (intro W hSw; (try dsimp only at hSw); go_simp; (first | done | with_reducible rfl))
    (try simp only [List.getElem_toArray, List.getElem_cons_succ, List.getElem_cons_zero, Act.put, List.setIfInBounds_toArray, List.set_cons_zero, List.set_cons_succ])
    refine wpAnyH_take (i := 5) (oi := _) (v := ?_) rfl (by kernel_rfl) (by kernel_rfl) (by kernel_rfl) (fun _ _ _ h => h) (Or.inl ⟨by rfl, ?_⟩) (by assumption) ?_; rotate_left; focus (intro W hSw; (try dsimp only at hSw); go_simp; (first | done | with_reducible rfl))
    (try simp only [List.getElem_toArray, List.getElem_cons_succ, List.getElem_cons_zero, Act.put, List.setIfInBounds_toArray, List.set_cons_zero, List.set_cons_succ])
    refine wpAnyH_take (i := 6) (oi := _) (v := ?_) rfl (by kernel_rfl) (by kernel_rfl) (by kernel_rfl) (fun _ _ _ h => h) (Or.inl ⟨by rfl, ?_⟩) (by assumption) ?_; rotate_left; focus (intro W hSw; (try dsimp only at hSw); go_simp; (first | done | with_reducible rfl))
    (try simp only [List.getElem_toArray, List.getElem_cons_succ, List.getElem_cons_zero, Act.put, List.setIfInBounds_toArray, List.set_cons_zero, List.set_cons_succ])
    refine wpAnyH_take (i := 7) (oi := _) (v := ?_) rfl (by kernel_rfl) (by kernel_rfl) (by kernel_rfl) (fun _ _ _ h => h) (Or.inl ⟨by rfl, ?_⟩) (by assumption) ?_; rotate_left; focus (intro W hSw; (try dsimp only at hSw); go_simp; (first | done | with_reducible rfl))
    (try simp only [List.getElem_toArray, List.getElem_cons_succ, List.getElem_cons_zero, Act.put, List.setIfInBounds_toArray, List.set_cons_zero, List.set_cons_succ])
    refine wpAnyH_take (i := 8) (oi := _) (v := ?_) rfl (by kernel_rfl) (by kernel_rfl) (by kernel_rfl) (fun _ _ _ h => h) (Or.inl ⟨by rfl, ?_⟩) (by assumption) ?_; rotate_left; focus (intro W hSw; (try dsimp only at hSw); go_simp; (first | done | with_reducible rfl))
    (try simp only [List.getElem_toArray, List.getElem_cons_succ, List.getElem_cons_zero, Act.put, List.setIfInBounds_toArray, List.set_cons_zero, List.set_cons_succ])
    refine wpAnyH_take (i := 9) (oi := _) (v := ?_) rfl (by kernel_rfl) (by kernel_rfl) (by kernel_rfl) (fun _ _ _ h => h) (Or.inl ⟨by rfl, ?_⟩) (by assumption) ?_; rotate_left; focus (intro W hSw; (try dsimp only at hSw); go_simp; (first | done | with_reducible rfl))
    (try simp only [List.getElem_toArray, List.getElem_cons_succ, List.getElem_cons_zero, Act.put, List.setIfInBounds_toArray, List.set_cons_zero, List.set_cons_succ])
    refine wpAnyH_take (i := 10) (oi := _) (v := ?_) rfl (by kernel_rfl) (by kernel_rfl) (by kernel_rfl) (fun _ _ _ h => h) (Or.inl ⟨by rfl, ?_⟩) (by assumption) ?_; rotate_left; focus (intro W hSw; (try dsimp only at hSw); go_simp; (first | done | with_reducible rfl))
    (try simp only [List.getElem_toArray, List.getElem_cons_succ, List.getElem_cons_zero, Act.put, List.setIfInBounds_toArray, List.set_cons_zero, List.set_cons_succ])
    refine wpAnyH_take (i := 11) (oi := _) (v := ?_) rfl (by kernel_rfl) (by kernel_rfl) (by kernel_rfl) (fun _ _ _ h => h) (Or.inl ⟨by rfl, ?_⟩) (by assumption) ?_; rotate_left; focus (intro W hSw; (try dsimp only at hSw); go_simp; (first | done | with_reducible rfl))
    (try simp only [List.getElem_toArray, List.getElem_cons_succ, List.getElem_cons_zero, Act.put, List.setIfInBounds_toArray, List.set_cons_zero, List.set_cons_succ])
    refine wpAnyH_ready (rs := [12]) (by kernel_rfl) (by simp) ?_
    refine AllReadyH.cons (o := _) rfl (fun K hK => ?_) AllReadyH.nil
    go_simp
    refine hK.out _ _ ⟨(HBz.out.cell hg2).trans d1, (HBz.out.cell hg2).trans d3⟩ (fun hsA => ?_)
    clear hK K hHeld
    have hst := blk_stored HZ.out (⟨0, x1, 0, 0, !m3, !w3b, 0, 0⟩ : Kl)
    have HB5 := Lib.hid (HBz.out.trans (hst.2 w3.heap.size (Nat.le_refl _)))
    refine wpAnyH_ready (rs := [13]) (by kernel_rfl) (by simp) ?_
    refine AllReadyH.cons (o := _) rfl (fun K hK => ?_) AllReadyH.nil
    rw [if_pos (by rfl)]
    refine wp_store_mid _ _ _ rfl w3.heap.size 0 #[.int .i64 ((⟨0,x1,0,0,!m3,!w3b,0,0⟩:Kl)).id, .string ((⟨0,x1,0,0,!m3,!w3b,0,0⟩:Kl)).nm, .int .i64 ((⟨0,x1,0,0,!m3,!w3b,0,0⟩:Kl)).lo, .int .i64 ((⟨0,x1,0,0,!m3,!w3b,0,0⟩:Kl)).hi, .bool ((⟨0,x1,0,0,!m3,!w3b,0,0⟩:Kl)).wo, .bool ((⟨0,x1,0,0,!m3,!w3b,0,0⟩:Kl)).me, .int .i64 ((⟨0,x1,0,0,!m3,!w3b,0,0⟩:Kl)).co, .int .i64 ((⟨0,x1,0,0,!m3,!w3b,0,0⟩:Kl)).mo] rfl rfl (KlK.blk_there HZ.out) KlK.size (KlK.one_cell (⟨0,x1,0,0,!m3,!w3b,0,0⟩:Kl)) ?_
    (try simp only [Act.put, List.setIfInBounds_toArray, List.set_cons_zero, List.set_cons_succ, List.toList_toArray])
    refine hK.out _ _ ⟨(HB5.out.cell hg2).trans d1, (HB5.out.cell hg2).trans d3⟩ (fun hsB => ?_)
    clear hK K
    refine wpAnyH_done (by kernel_rfl) ?_ _
    refine NoPanic.normal ?_
    (try simp only [List.getElem_toArray, List.getElem_cons_succ, List.getElem_cons_zero, Act.put, List.setIfInBounds_toArray, List.set_cons_zero, List.set_cons_succ])
    generalize hW5 : World.setCells _ _ _ _ = w5
    have HP := Lib.hid (show PS w w3.heap.size w5 ws ag g2 g3 (⟨0, x1, 0, 0, !m3, !w3b, 0, 0⟩ : Kl) from by
      rw [← hW5]
      exact ⟨hB3.out.trans (HB5.out.mono hB3.out.size), hst.1, hK3.out.later HB5.out, RowAt.below hR3.out HB5.out, RowAt.below hA3.out HB5.out, HBK.out, hg2, HG3.out⟩)
    clear hst HZ HBz d1 d3 HB5 hg2 HBK HG3 hR3 hA3 hK3 hB3 hsA hsB hW5
    have d := row_at HP.out.R 0 (by rw [HN.out]; omega)
    go_wp2_with fail
    clear d
    refine (Prs.read_any (sAt ws 0) _ Z0.out).mono ?_
    rintro e wq ⟨he, hb⟩
    unfold RdPost at he
    rw [HN0.out] at he
    subst he
    replace HP := Lib.hid (HP.out.later (hb.below _))
    obtain ⟨oo, hoo⟩ : ∃ b, Option.isSome (val (sAt ws 0)) = b := ⟨_, rfl⟩
    rw [hoo]
    clear hb hoo
    obtain ⟨⟨c, -⟩, y, -⟩ := blk_cells HP.out.K
    go_upto_region 9 with (fail)
    replace HP := Lib.hid (HP.out.set0 n0)
    clear c y
    generalize World.setCell _ _ _ = wz at *
    have d := row_at HP.out.A 0 (by rw [HNA.out]; omega)
    go_wp2_with fail
    clear d
    refine (Prs.read_any (sAt ag 0) _ Y0.out).mono ?_
    rintro e wq ⟨he, hb⟩
    unfold RdPost at he
    rw [HNa.out] at he
    subst he
    replace HP := Lib.hid (HP.out.later (hb.below _))
    obtain ⟨oo, hoo⟩ : ∃ b, Option.isSome (val (sAt ag 0)) = b := ⟨_, rfl⟩
    rw [hoo]
    clear hb hoo
    obtain ⟨⟨-, -, c, -⟩, -, -, y, -⟩ := blk_cells HP.out.K
    go_upto_region 10 with (fail)
    replace HP := Lib.hid (HP.out.set2 na)
    clear c y
    generalize World.setCell _ _ _ = wz at *
    have d := row_at HP.out.A 1 (by rw [HNA.out]; omega)
    go_wp2_with fail
    clear d
    refine (Prs.read_any (sAt ag 1) _ Y1.out).mono ?_
    rintro e wq ⟨he, hb⟩
    unfold RdPost at he
    rw [HNb.out] at he
    subst he
    replace HP := Lib.hid (HP.out.later (hb.below _))
    obtain ⟨oo, hoo⟩ : ∃ b, Option.isSome (val (sAt ag 1)) = b := ⟨_, rfl⟩
    rw [hoo]
    clear hb hoo
    obtain ⟨⟨-, -, -, c, -⟩, -, -, -, y, -⟩ := blk_cells HP.out.K
    go_upto_region 11 with (fail)
    replace HP := Lib.hid (HP.out.set3 nb)
    clear c y
    generalize World.setCell _ _ _ = wz at *
    have d := row_at HP.out.R 5 (by rw [HN.out]; omega)
    go_wp2_with fail
    clear d
    refine (Prs.read_any (sAt ws 5) _ Z5.out).mono ?_
    rintro e wq ⟨he, hb⟩
    unfold RdPost at he
    rw [HN5.out] at he
    subst he
    replace HP := Lib.hid (HP.out.later (hb.below _))
    obtain ⟨oo, hoo⟩ : ∃ b, Option.isSome (val (sAt ws 5)) = b := ⟨_, rfl⟩
    rw [hoo]
    clear hb hoo
    obtain ⟨⟨-, -, -, -, -, -, c, -⟩, -, -, -, -, -, -, y, -⟩ := blk_cells HP.out.K
    go_upto_region 12 with (fail)
    replace HP := Lib.hid (HP.out.set6 n5)
    clear c y
    generalize World.setCell _ _ _ = wz at *
    have d := row_at HP.out.R 7 (by rw [HN.out]; omega)
    go_wp2_with fail
    clear d
    refine (Prs.read_any (sAt ws 7) _ Z7.out).mono ?_
    rintro e wq ⟨he, hb⟩
    unfold RdPost at he
    rw [HN7.out] at he
    subst he
    replace HP := Lib.hid (HP.out.later (hb.below _))
    obtain ⟨oo, hoo⟩ : ∃ b, Option.isSome (val (sAt ws 7)) = b := ⟨_, rfl⟩
    rw [hoo]
    clear hb hoo
    obtain ⟨⟨-, -, -, -, -, -, -, c⟩, -, -, -, -, -, -, -, y⟩ := blk_cells HP.out.K
    go_upto_region 13 with (fail)
    replace HP := Lib.hid (HP.out.set7 n7)
    clear c y
    generalize World.setCell _ _ _ = wz at *
    obtain ⟨m, hm⟩ : ∃ m, canS s = m := ⟨_, rfl⟩
    have HMq := Lib.hid hm
    have HPm := Lib.hid (show PS w w3.heap.size wz ws ag g2 g3 m from by rw [← hm, HM.out]; exact HP.out)
    have HIm := Lib.hid (show Is m from by rw [← hm]; exact HIS.out)
    clear hm HP
    obtain ⟨⟨p0, p1, p2, p3, p4, p5, p6, p7⟩, -⟩ := blk_cells HPm.out.K
    go_wp2_with fail
    clear p0 p1 p2 p3 p4 p5 p6 p7
    refine (KlI.spec_one m HIm.out _).mono ?_
    rintro e wb ⟨rfl, hb⟩
    have HPb := Lib.hid (HPm.out.later hb)
    clear hb HPm
    obtain ⟨⟨p0, p1, p2, p3, p4, p5, p6, p7⟩, -⟩ := blk_cells HPb.out.K
    by_cases hok : okK m = true
    · have HOK := Lib.hid hok
      rw [hok]
      clear hok
      go_wp2_with fail
      clear p0 p1 p2 p3 p4 p5 p6 p7
      refine (KtT.text_any m HOK.out _).mono ?_
      rintro e wc ⟨rfl, hb⟩
      have HPc := Lib.hid (HPb.out.later hb)
      clear hb HPb
      obtain ⟨⟨p0, p1, p2, p3, p4, p5, p6, p7⟩, -⟩ := blk_cells HPc.out.K
      obtain ⟨⟨b0, b1, b2, b3, b4, b5, b6, b7⟩, f0, f1, f2, f3, f4, f5, f6, f7⟩ := blk_cells HPc.out.Q
      by_cases htx : txK m = s
      · have h1 : ok = true := by rw [← HO.out]; unfold okS; rw [hlen.out, HMq.out, HOK.out, decide_eq_true htx]; rfl
        have h2 : r = m := by rw [← HR.out, ans_yes (by rw [HO.out, h1]), HMq.out]
        have hq : ((txK m).toList == s.toList) = true := by rw [htx]; simp
        subst h1 h2
        clear htx
        have hgl := HPc.out.lt
        go_wp2
        clear p0 p1 p2 p3 p4 p5 p6 p7
        clear b0 b1 b2 b3 b4 b5 b6 b7 f0 f1 f2 f3 f4 f5 f6 f7
        have hz := blk_all HPc.out.Q r
        have HB9 := Lib.hid (HPc.out.D.trans (hz.2 w.heap.size (Nat.le_refl _)))
        replace hz := hz.1
        generalize (((((((wc.setCell _ _).setCell _ _).setCell _ _).setCell _ _).setCell _ _).setCell _ _).setCell _ _).setCell _ _ = w9 at *
        obtain ⟨⟨u0, u1, u2, u3, u4, u5, u6, u7⟩, -⟩ := blk_cells hz
        refine bodyPost_ret (v := .tuple #[.agg #[.int .i64 r.id, .string r.nm, .int .i64 r.lo, .int .i64 r.hi, .bool r.wo, .bool r.me, .int .i64 r.co, .int .i64 r.mo], .bool true]) (by simp [results, Tryz.results11, go_sem, u0, u1, u2, u3, u4, u5, u6, u7]) rfl ⟨rfl, HB9.out⟩
      · have h1 : ok = false := by rw [← HO.out]; unfold okS; rw [HMq.out, decide_eq_false htx]; simp
        have h2 : r = no := by rw [← HR.out]; exact ans_no (by rw [HO.out, h1])
        have hq := str_beq htx
        subst h1 h2
        clear htx
        go_wp2
        clear p0 p1 p2 p3 p4 p5 p6 p7
        clear b0 b1 b2 b3 b4 b5 b6 b7 f0 f1 f2 f3 f4 f5 f6 f7
        have hz := blk_zero HPc.out.Q
        have HB9 := Lib.hid (HPc.out.D.trans (hz.2 w.heap.size (Nat.le_refl _)))
        replace hz := hz.1
        generalize (((((((wc.setCell _ _).setCell _ _).setCell _ _).setCell _ _).setCell _ _).setCell _ _).setCell _ _).setCell _ _ = w9 at *
        obtain ⟨⟨u0, u1, u2, u3, u4, u5, u6, u7⟩, -⟩ := blk_cells hz
        refine bodyPost_ret (v := .tuple #[.agg #[.int .i64 no.id, .string no.nm, .int .i64 no.lo, .int .i64 no.hi, .bool no.wo, .bool no.me, .int .i64 no.co, .int .i64 no.mo], .bool false]) (by simp [results, Tryz.results11, go_sem, u0, u1, u2, u3, u4, u5, u6, u7]) rfl ⟨rfl, HB9.out⟩
    · have hok' : okK m = false := by simpa using hok
      have h1 : ok = false := by rw [← HO.out]; unfold okS; rw [HMq.out, hok']; simp
      have h2 : r = no := by rw [← HR.out]; exact ans_no (by rw [HO.out, h1])
      subst h1 h2
      rw [hok']
      clear hok hok'
      obtain ⟨⟨b0, b1, b2, b3, b4, b5, b6, b7⟩, f0, f1, f2, f3, f4, f5, f6, f7⟩ := blk_cells HPb.out.Q
      go_wp2
      clear p0 p1 p2 p3 p4 p5 p6 p7
      clear b0 b1 b2 b3 b4 b5 b6 b7 f0 f1 f2 f3 f4 f5 f6 f7
      have hz := blk_zero HPb.out.Q
      have HB9 := Lib.hid (HPb.out.D.trans (hz.2 w.heap.size (Nat.le_refl _)))
      replace hz := hz.1
      generalize (((((((wb.setCell _ _).setCell _ _).setCell _ _).setCell _ _).setCell _ _).setCell _ _).setCell _ _).setCell _ _ = w9 at *
      obtain ⟨⟨u0, u1, u2, u3, u4, u5, u6, u7⟩, -⟩ := blk_cells hz
      refine bodyPost_ret (v := .tuple #[.agg #[.int .i64 no.id, .string no.nm, .int .i64 no.lo, .int .i64 no.hi, .bool no.wo, .bool no.me, .int .i64 no.co, .int .i64 no.mo], .bool false]) (by simp [results, Tryz.results11, go_sem, u0, u1, u2, u3, u4, u5, u6, u7]) rfl ⟨rfl, HB9.out⟩

end Go.Proofs.YtleoljnofdajfaaGreatDoor.KpS

namespace Go.Proofs.YtleoljnofdajfaaGreatDoor.KpI
open Go.RowKit Lb Bk InA Wd KlK KlI Fmt NumM KtT PfM PfI Rd KpM KpS SplC
open L1S (NewStrs)
set_option linter.unusedSimpArgs false
set_option linter.unusedVariables false

def Mx (w : World) : Prop := ∃ m, w.cell? ⟨0, 0, none⟩ = some (.int .i64 m)
theorem mx_below {w w' : World} (h : Mx w) (hb : Below w.heap.size w w') : Mx w' := by
  obtain ⟨m, hm⟩ := h
  have hlt : 0 < w.heap.size := World.block_lt_of_cell? w _ hm
  exact ⟨m, (hb.cell hlt).trans hm⟩
/-- What the library's texts lean on. -/
def Gl (w : World) : Prop := Prs.Glob w ∧ Mx w
theorem Gl.below {w w' : World} (h : Gl w) (hb : Below w.heap.size w w') : Gl w' := ⟨Prs.Glob.below h.1 hb, mx_below h.2 hb⟩
theorem cut_any (x : ByteArray) (w : World) (hs : x.size ≤ 1048576) (hm : Mx w) : Calls Tryz.prog 30 #[.string x, .string ⟨#[45]⟩] w fun e w' => ∃ fo, e = .returned (.tuple #[.string (cutA x), .string (cutB x), .bool fo]) ∧ Below w.heap.size w w' := by
  obtain ⟨m, hm⟩ := hm
  refine (Tryz.strings_Cut x ⟨#[45]⟩ m w (by omega) hm).mono ?_
  rintro e w' ⟨rfl, n, rfl⟩
  exact ⟨_, rfl, below_drewN (Below.refl _ _) _⟩
theorem has_any (x : ByteArray) (c : UInt8) (w : World) : Calls Tryz.prog 31 #[.string x, .string ⟨#[c]⟩] w fun e w' => e = .returned (.bool (hasC x c)) ∧ w' = w := Tryz.strings_Contains_one x c w

set_option maxRecDepth 20000 in
set_option maxHeartbeats 4000000 in
theorem impl_any (s : ByteArray) (hs : s.size ≤ 1048576) (w : World) (hG : Gl w) :
    Calls Tryz.prog 9 #[.string s] w fun e w' => e = .returned (.tuple #[.agg #[.int .i64 (ansK s).id, .string (ansK s).nm, .int .i64 (ansK s).lo, .int .i64 (ansK s).hi, .bool (ansK s).wo, .bool (ansK s).me, .int .i64 (ansK s).co, .int .i64 (ansK s).mo], .bool (okS s)]) ∧ Below w.heap.size w w' := by
  have hB0 := Lib.hid ((Below.refl w.heap.size w).alloc (Nat.le_refl _) (.cells #[.int .i64 no.id, .string no.nm, .int .i64 no.lo, .int .i64 no.hi, .bool no.wo, .bool no.me, .int .i64 no.co, .int .i64 no.mo] 25))
  have hK0 := Lib.hid (Blk.new w 25 #[.int .i64 no.id, .string no.nm, .int .i64 no.lo, .int .i64 no.hi, .bool no.wo, .bool no.me, .int .i64 no.co, .int .i64 no.mo])
  have HIS := Lib.hid (mkI_is hs)
  have HG := Lib.hid hG
  obtain ⟨r, hr⟩ : ∃ r, ansK s = r := ⟨_, rfl⟩
  obtain ⟨ok, hok⟩ : ∃ ok, okI s = ok := ⟨_, rfl⟩
  have HR := Lib.hid (show (if ok then canI s else no) = r from by rw [← hok, ← ans_I, hr])
  have HO := Lib.hid hok
  rw [← ok_same, hr, hok]
  clear hr hok hG
  by_cases h4 : s.size ≤ 4000
  case neg =>
    have h1 : ok = false := by rw [← HO.out]; unfold okI; rw [decide_eq_false (by omega)]; rfl
    subst h1
    have h2 : r = no := HR.out.symm
    subst h2
    go_enter Tryz.func9, Tryz.ntmps9
    go_wp2_with fail
    refine (split_no s _ hs (by omega)).mono ?_
    rintro e w2 ⟨v, rfl, ho, hb2⟩
    have D2 := Lib.hid (hB0.out.trans (hb2.mono hB0.out.size))
    have K2 := Lib.hid (hK0.out.later hb2)
    clear hb2 ho hB0 hK0 h4 HR
    obtain ⟨⟨b0, b1, b2, b3, b4, b5, b6, b7⟩, f0, f1, f2, f3, f4, f5, f6, f7⟩ := blk_cells K2.out
    go_wp2
    clear b0 b1 b2 b3 b4 b5 b6 b7 f0 f1 f2 f3 f4 f5 f6 f7
    have hz := blk_zero K2.out
    have HB9 := Lib.hid (D2.out.trans (hz.2 w.heap.size (Nat.le_refl _)))
    replace hz := hz.1
    generalize ((((((((World.setCell _ _ _).setCell _ _).setCell _ _).setCell _ _).setCell _ _).setCell _ _).setCell _ _).setCell _ _) = w9 at *
    obtain ⟨⟨u0, u1, u2, u3, u4, u5, u6, u7⟩, -⟩ := blk_cells hz
    refine bodyPost_ret (v := .tuple #[.agg #[.int .i64 no.id, .string no.nm, .int .i64 no.lo, .int .i64 no.hi, .bool no.wo, .bool no.me, .int .i64 no.co, .int .i64 no.mo], .bool false]) (by simp [results, Tryz.results9, go_sem, u0, u1, u2, u3, u4, u5, u6, u7]) rfl ⟨rfl, HB9.out⟩
  go_enter Tryz.func9, Tryz.ntmps9
  go_wp2_with fail
  refine (split_ok s _ h4).mono ?_
  rintro e w2 ⟨v, rfl, ho, hb2⟩
  have hwl := parts_length s 32
  have hwt := parts_total s 32
  have z0 := sAt_le (parts s 32) 0
  have z2 := sAt_le (parts s 32) 2
  have z5 := sAt_le (parts s 32) 5
  have z7 := sAt_le (parts s 32) 7
  obtain ⟨ws, hws⟩ : ∃ ws, parts s 32 = ws := ⟨_, rfl⟩
  rw [hws] at ho hwl hwt z0 z2 z5 z7
  obtain ⟨g2, c2, rfl, hr2, hc2⟩ := own_strs0 ho hwl.2
  have HWS := Lib.hid hws
  have hB2 := Lib.hid (hB0.out.trans (hb2.mono hB0.out.size))
  have hK2 := Lib.hid (hK0.out.later hb2)
  have hR2 := Lib.hid hr2
  obtain ⟨n, hn⟩ : ∃ n, ws.length = n := ⟨_, rfl⟩
  have HN := Lib.hid hn
  rw [hn] at hwl hwt hc2 ⊢
  clear hb2 ho hr2 hws hB0 hK0 hn
  by_cases h8 : n = 8
  case neg =>
    have h1 : ok = false := by rw [← HO.out]; unfold okI; rw [HWS.out, HN.out, decide_eq_false (by omega)]; rfl
    subst h1
    have h2 : r = no := HR.out.symm
    have e8 : ((n : Int) != 8) = true := by simp; omega
    subst h2
    clear hwl hwt z0 z2 z5 z7 h8 h4 HR
    obtain ⟨⟨b0, b1, b2, b3, b4, b5, b6, b7⟩, f0, f1, f2, f3, f4, f5, f6, f7⟩ := blk_cells hK2.out
    go_wp2
    clear b0 b1 b2 b3 b4 b5 b6 b7 f0 f1 f2 f3 f4 f5 f6 f7
    have hz := blk_zero hK2.out
    have HB9 := Lib.hid (hB2.out.trans (hz.2 w.heap.size (Nat.le_refl _)))
    replace hz := hz.1
    generalize ((((((((World.setCell _ _ _).setCell _ _).setCell _ _).setCell _ _).setCell _ _).setCell _ _).setCell _ _).setCell _ _) = w9 at *
    obtain ⟨⟨u0, u1, u2, u3, u4, u5, u6, u7⟩, -⟩ := blk_cells hz
    refine bodyPost_ret (v := .tuple #[.agg #[.int .i64 no.id, .string no.nm, .int .i64 no.lo, .int .i64 no.hi, .bool no.wo, .bool no.me, .int .i64 no.co, .int .i64 no.mo], .bool false]) (by simp [results, Tryz.results9, go_sem, u0, u1, u2, u3, u4, u5, u6, u7]) rfl ⟨rfl, HB9.out⟩
  subst h8
  have hlen := Lib.hid (show decide (s.size ≤ 4000 ∧ (parts s 32).length = 8) = true from decide_eq_true ⟨h4, by rw [HWS.out, HN.out]⟩)
  have Z0 := Lib.hid (show (sAt ws 0).size ≤ 1048576 from by omega)
  have Z2 := Lib.hid (show (sAt ws 2).size ≤ 1048576 from by omega)
  have Z5 := Lib.hid (show (sAt ws 5).size ≤ 1048576 from by omega)
  have Z7 := Lib.hid (show (sAt ws 7).size ≤ 1048576 from by omega)
  have hcz := cut_size (sAt ws 2)
  have YA := Lib.hid (show (cutA (sAt ws 2)).size ≤ 1048576 from by omega)
  have YB := Lib.hid (show (cutB (sAt ws 2)).size ≤ 1048576 from by omega)
  have HM := Lib.hid (show canI s = ⟨(val (sAt ws 0)).getD 0, sAt ws 1, (val (cutA (sAt ws 2))).getD 0, (val (cutB (sAt ws 2))).getD 0, hasC (sAt ws 3) 119, hasC (sAt ws 3) 109, (val (sAt ws 5)).getD 0, (val (sAt ws 7)).getD 0⟩ from by unfold canI mkI vz; rw [HWS.out])
  have d2 := row_at hR2.out 2 (by rw [HN.out]; omega)
  clear hwl hwt z0 z2 z5 z7 h4 hcz
  go_wp2_with fail
  clear d2
  refine (cut_any (sAt ws 2) _ Z2.out (HG.out.below hB2.out).2).mono ?_
  rintro e w3 ⟨fo, rfl, hb⟩
  have hB3 := Lib.hid (hB2.out.trans (hb.mono hB2.out.size))
  have hK3 := Lib.hid (hK2.out.later hb)
  have hR3 := Lib.hid (RowAt.below hR2.out hb)
  clear hb hB2 hK2 hR2
  obtain ⟨ca, hca⟩ : ∃ x, cutA (sAt ws 2) = x := ⟨_, rfl⟩
  obtain ⟨cb, hcb⟩ : ∃ x, cutB (sAt ws 2) = x := ⟨_, rfl⟩
  rw [hca] at YA HM ⊢
  rw [hcb] at YB HM ⊢
  clear hca hcb
  have d1 := row_at hR3.out 1 (by rw [HN.out]; omega)
  have d3 := row_at hR3.out 3 (by rw [HN.out]; omega)
  obtain ⟨x1, hx1⟩ : ∃ x, sAt ws 1 = x := ⟨_, rfl⟩
  obtain ⟨x3, hx3⟩ : ∃ x, sAt ws 3 = x := ⟨_, rfl⟩
  rw [hx1] at d1 HM
  rw [hx3] at d3 HM
  clear hx1 hx3
  obtain ⟨h119, hc119⟩ : ∃ b, hasC x3 119 = b := ⟨_, rfl⟩
  obtain ⟨h109, hc109⟩ : ∃ b, hasC x3 109 = b := ⟨_, rfl⟩
  obtain ⟨n0, hn0⟩ : ∃ z, (val (sAt ws 0)).getD 0 = z := ⟨_, rfl⟩
  obtain ⟨n5, hn5⟩ : ∃ z, (val (sAt ws 5)).getD 0 = z := ⟨_, rfl⟩
  obtain ⟨n7, hn7⟩ : ∃ z, (val (sAt ws 7)).getD 0 = z := ⟨_, rfl⟩
  obtain ⟨na, hna⟩ : ∃ z, (val ca).getD 0 = z := ⟨_, rfl⟩
  obtain ⟨nb, hnb⟩ : ∃ z, (val cb).getD 0 = z := ⟨_, rfl⟩
  rw [hc119, hc109, hn0, hn5, hn7, hna, hnb] at HM
  have HN0 := Lib.hid hn0
  have HN5 := Lib.hid hn5
  have HN7 := Lib.hid hn7
  have HNa := Lib.hid hna
  have HNb := Lib.hid hnb
  have HBK := Lib.hid hK3.out.lt
  clear hn0 hn5 hn7 hna hnb
  go_upto_region 5 with (fail)
  go_cut [9] from 33 to 45 (fun st wx => st = .pointer (some ⟨w3.heap.size, 0, none⟩) ∧ PS w w3.heap.size wx ws [] g2 g2 (⟨0, x1, 0, 0, h119, h109, 0, 0⟩ : Kl))
  case first =>
    have hg2 : g2 < w3.heap.size := World.block_lt_of_cell? w3 _ d1
    have HZ := Lib.hid (Blk.new w3.drew 25 #[.int .i64 no.id, .string no.nm, .int .i64 no.lo, .int .i64 no.hi, .bool no.wo, .bool no.me, .int .i64 no.co, .int .i64 no.mo])
    have HBz := Lib.hid ((Below.refl w3.heap.size w3).drew.alloc (Nat.le_refl _) (.cells #[.int .i64 no.id, .string no.nm, .int .i64 no.lo, .int .i64 no.hi, .bool no.wo, .bool no.me, .int .i64 no.co, .int .i64 no.mo] 25))
    have hst := blk_stored HZ.out (⟨0, x1, 0, 0, h119, h109, 0, 0⟩ : Kl)
    have HB5 := Lib.hid (HBz.out.trans (hst.2 w3.heap.size (Nat.le_refl _)))
    refine wp_region_noPanic ?_
    refine wp_region_held_drew (S := (fun Wx : World => Wx.cell? ⟨g2, 1, none⟩ = some (.string x1) ∧ Wx.cell? ⟨g2, 3, none⟩ = some (.string x3))) (by kernel_rfl) ⟨d1, d3⟩ (fun hHeld => ?_)
    refine wpAnyH_take (i := 0) (oi := _) (v := ?_) rfl (by kernel_rfl) (by kernel_rfl) (by kernel_rfl) (fun _ _ _ h => h) (Or.inl ⟨by rfl, ?_⟩) (by assumption) ?_; rotate_left; focus (intro W hSw; (try dsimp only at hSw); go_simp; (first | done | with_reducible rfl))
    (try simp only [List.getElem_toArray, List.getElem_cons_succ, List.getElem_cons_zero, Act.put, List.setIfInBounds_toArray, List.set_cons_zero, List.set_cons_succ])
    refine wpAnyH_take (i := 1) (oi := _) (v := ?_) rfl (by kernel_rfl) (by kernel_rfl) (by kernel_rfl) (fun _ _ _ h => h) (Or.inl ⟨by rfl, ?_⟩) (by assumption) ?_; rotate_left; focus (intro W hSw; (try dsimp only at hSw); go_simp; (first | done | with_reducible rfl))
    (try simp only [List.getElem_toArray, List.getElem_cons_succ, List.getElem_cons_zero, Act.put, List.setIfInBounds_toArray, List.set_cons_zero, List.set_cons_succ])
    refine wpAnyH_take (i := 2) (oi := _) (v := ?_) rfl (by kernel_rfl) (by kernel_rfl) (by kernel_rfl) (fun _ _ _ h => h) (Or.inl ⟨by rfl, ?_⟩) (by assumption) ?_; rotate_left; focus (intro W hSw; (try dsimp only at hSw); go_simp; (first | done | with_reducible rfl))
    (try simp only [List.getElem_toArray, List.getElem_cons_succ, List.getElem_cons_zero, Act.put, List.setIfInBounds_toArray, List.set_cons_zero, List.set_cons_succ])
    refine wpAnyH_take (i := 3) (oi := _) (v := ?_) rfl (by kernel_rfl) (by kernel_rfl) (by kernel_rfl) (fun _ _ _ h => h) (Or.inl ⟨by rfl, ?_⟩) (by assumption) ?_; rotate_left; focus (intro W hSw; (try dsimp only at hSw); go_simp; (first | done | with_reducible rfl))
    (try simp only [List.getElem_toArray, List.getElem_cons_succ, List.getElem_cons_zero, Act.put, List.setIfInBounds_toArray, List.set_cons_zero, List.set_cons_succ])
    refine wpAnyH_take (i := 4) (oi := _) (v := ?_) rfl (by kernel_rfl) (by kernel_rfl) (by kernel_rfl) (fun _ _ _ h => h) (Or.inl ⟨by rfl, ?_⟩) (by assumption) ?_; rotate_left; focus (intro W hSw; (try dsimp only at hSw); go_simp; (first | done | with_reducible rfl))
    (try simp only [List.getElem_toArray, List.getElem_cons_succ, List.getElem_cons_zero, Act.put, List.setIfInBounds_toArray, List.set_cons_zero, List.set_cons_succ])
    refine wpAnyH_take (i := 5) (oi := _) (v := ?_) rfl (by kernel_rfl) (by kernel_rfl) (by kernel_rfl) (fun _ _ _ h => h) (Or.inl ⟨by rfl, ?_⟩) (by assumption) ?_; rotate_left; focus (intro W hSw; (try dsimp only at hSw); go_simp; (first | done | with_reducible rfl))
    (try simp only [List.getElem_toArray, List.getElem_cons_succ, List.getElem_cons_zero, Act.put, List.setIfInBounds_toArray, List.set_cons_zero, List.set_cons_succ])
    refine wpAnyH_take (i := 7) (oi := _) (v := ?_) rfl (by kernel_rfl) (by kernel_rfl) (by kernel_rfl) (fun _ _ _ h => h) (Or.inl ⟨by rfl, ?_⟩) (by assumption) ?_; rotate_left; focus (intro W hSw; (try dsimp only at hSw); go_simp; (first | done | with_reducible rfl))
    (try simp only [List.getElem_toArray, List.getElem_cons_succ, List.getElem_cons_zero, Act.put, List.setIfInBounds_toArray, List.set_cons_zero, List.set_cons_succ])
    refine wpAnyH_take (i := 8) (oi := _) (v := ?_) rfl (by kernel_rfl) (by kernel_rfl) (by kernel_rfl) (fun _ _ _ h => h) (Or.inl ⟨by rfl, ?_⟩) (by assumption) ?_; rotate_left; focus (intro W hSw; (try dsimp only at hSw); go_simp; (first | done | with_reducible rfl))
    (try simp only [List.getElem_toArray, List.getElem_cons_succ, List.getElem_cons_zero, Act.put, List.setIfInBounds_toArray, List.set_cons_zero, List.set_cons_succ])
    refine wpAnyH_take (i := 9) (oi := _) (v := ?_) rfl (by kernel_rfl) (by kernel_rfl) (by kernel_rfl) (fun _ _ _ h => h) (Or.inl ⟨by rfl, ?_⟩) (by assumption) ?_; rotate_left; focus (intro W hSw; (try dsimp only at hSw); go_simp; (first | done | with_reducible rfl))
    (try simp only [List.getElem_toArray, List.getElem_cons_succ, List.getElem_cons_zero, Act.put, List.setIfInBounds_toArray, List.set_cons_zero, List.set_cons_succ])
    refine wpAnyH_ready (rs := [6, 12]) (by kernel_rfl) (by simp) ?_
    refine AllReadyH.cons (o := _) rfl (fun K hK => ?_) (AllReadyH.cons (o := _) rfl (fun K hK => ?_) (AllReadyH.nil))
    · go_simp
      go_at_call 31
      refine (has_any x3 119 _).mono ?_
      rintro e w4 ⟨rfl, rfl⟩
      rw [hc119]
      go_wp2_with fail
      refine hK.out _ _ ⟨d1, d3⟩ (fun hsC => ?_)
      clear hK K hHeld
      refine wpAnyH_ready (rs := [10, 12]) (by kernel_rfl) (by simp) ?_
      refine AllReadyH.cons (o := _) rfl (fun K hK => ?_) (AllReadyH.cons (o := _) rfl (fun K hK => ?_) (AllReadyH.nil))
      · go_simp
        go_at_call 31
        refine (has_any x3 109 _).mono ?_
        rintro e w4 ⟨rfl, rfl⟩
        rw [hc109]
        go_wp2_with fail
        refine hK.out _ _ ⟨d1, d3⟩ (fun hsD => ?_)
        clear hK K
        refine wpAnyH_take (i := 11) (oi := _) (v := ?_) rfl (by kernel_rfl) (by kernel_rfl) (by kernel_rfl) (fun _ _ _ h => h) (Or.inl ⟨by rfl, ?_⟩) (by assumption) ?_; rotate_left; focus (intro W hSw; (try dsimp only at hSw); go_simp; (first | done | with_reducible rfl))
        (try simp only [List.getElem_toArray, List.getElem_cons_succ, List.getElem_cons_zero, Act.put, List.setIfInBounds_toArray, List.set_cons_zero, List.set_cons_succ])
        refine wpAnyH_ready (rs := [12]) (by kernel_rfl) (by simp) ?_
        refine AllReadyH.cons (o := _) rfl (fun K hK => ?_) AllReadyH.nil
        go_simp
        refine hK.out _ _ ⟨(HBz.out.cell hg2).trans d1, (HBz.out.cell hg2).trans d3⟩ (fun hsA => ?_)
        clear hK K
        refine wpAnyH_ready (rs := [13]) (by kernel_rfl) (by simp) ?_
        refine AllReadyH.cons (o := _) rfl (fun K hK => ?_) AllReadyH.nil
        rw [if_pos (by rfl)]
        refine wp_store_mid _ _ _ rfl w3.heap.size 0 #[.int .i64 ((⟨0,x1,0,0,h119,h109,0,0⟩:Kl)).id, .string ((⟨0,x1,0,0,h119,h109,0,0⟩:Kl)).nm, .int .i64 ((⟨0,x1,0,0,h119,h109,0,0⟩:Kl)).lo, .int .i64 ((⟨0,x1,0,0,h119,h109,0,0⟩:Kl)).hi, .bool ((⟨0,x1,0,0,h119,h109,0,0⟩:Kl)).wo, .bool ((⟨0,x1,0,0,h119,h109,0,0⟩:Kl)).me, .int .i64 ((⟨0,x1,0,0,h119,h109,0,0⟩:Kl)).co, .int .i64 ((⟨0,x1,0,0,h119,h109,0,0⟩:Kl)).mo] rfl rfl (KlK.blk_there HZ.out) KlK.size (KlK.one_cell (⟨0,x1,0,0,h119,h109,0,0⟩:Kl)) ?_
        (try simp only [Act.put, List.setIfInBounds_toArray, List.set_cons_zero, List.set_cons_succ, List.toList_toArray])
        refine hK.out _ _ ⟨(HB5.out.cell hg2).trans d1, (HB5.out.cell hg2).trans d3⟩ (fun hsB => ?_)
        clear hK K
        refine wpAnyH_done (by kernel_rfl) ?_ _
        refine NoPanic.normal ?_
        (try simp only [List.getElem_toArray, List.getElem_cons_succ, List.getElem_cons_zero, Act.put, List.setIfInBounds_toArray, List.set_cons_zero, List.set_cons_succ])
        go_wp2
        go_meet
        exact ⟨rfl, ⟨hB3.out.trans (HB5.out.mono hB3.out.size), hst.1, hK3.out.later HB5.out, RowAt.below hR3.out HB5.out, .inl rfl, HBK.out, hg2, hg2⟩⟩
      · go_simp
        refine hK.out _ _ ⟨(HBz.out.cell hg2).trans d1, (HBz.out.cell hg2).trans d3⟩ (fun hsA => ?_)
        clear hK K
        refine wpAnyH_ready (rs := [10]) (by kernel_rfl) (by simp) ?_
        refine AllReadyH.cons (o := _) rfl (fun K hK => ?_) AllReadyH.nil
        go_simp
        go_at_call 31
        refine (has_any x3 109 _).mono ?_
        rintro e w4 ⟨rfl, rfl⟩
        rw [hc109]
        go_wp2_with fail
        refine hK.out _ _ ⟨(HBz.out.cell hg2).trans d1, (HBz.out.cell hg2).trans d3⟩ (fun hsD => ?_)
        clear hK K
        refine wpAnyH_take (i := 11) (oi := _) (v := ?_) rfl (by kernel_rfl) (by kernel_rfl) (by kernel_rfl) (fun _ _ _ h => h) (Or.inl ⟨by rfl, ?_⟩) (by assumption) ?_; rotate_left; focus (intro W hSw; (try dsimp only at hSw); go_simp; (first | done | with_reducible rfl))
        (try simp only [List.getElem_toArray, List.getElem_cons_succ, List.getElem_cons_zero, Act.put, List.setIfInBounds_toArray, List.set_cons_zero, List.set_cons_succ])
        refine wpAnyH_ready (rs := [13]) (by kernel_rfl) (by simp) ?_
        refine AllReadyH.cons (o := _) rfl (fun K hK => ?_) AllReadyH.nil
        rw [if_pos (by rfl)]
        refine wp_store_mid _ _ _ rfl w3.heap.size 0 #[.int .i64 ((⟨0,x1,0,0,h119,h109,0,0⟩:Kl)).id, .string ((⟨0,x1,0,0,h119,h109,0,0⟩:Kl)).nm, .int .i64 ((⟨0,x1,0,0,h119,h109,0,0⟩:Kl)).lo, .int .i64 ((⟨0,x1,0,0,h119,h109,0,0⟩:Kl)).hi, .bool ((⟨0,x1,0,0,h119,h109,0,0⟩:Kl)).wo, .bool ((⟨0,x1,0,0,h119,h109,0,0⟩:Kl)).me, .int .i64 ((⟨0,x1,0,0,h119,h109,0,0⟩:Kl)).co, .int .i64 ((⟨0,x1,0,0,h119,h109,0,0⟩:Kl)).mo] rfl rfl (KlK.blk_there HZ.out) KlK.size (KlK.one_cell (⟨0,x1,0,0,h119,h109,0,0⟩:Kl)) ?_
        (try simp only [Act.put, List.setIfInBounds_toArray, List.set_cons_zero, List.set_cons_succ, List.toList_toArray])
        refine hK.out _ _ ⟨(HB5.out.cell hg2).trans d1, (HB5.out.cell hg2).trans d3⟩ (fun hsB => ?_)
        clear hK K
        refine wpAnyH_done (by kernel_rfl) ?_ _
        refine NoPanic.normal ?_
        (try simp only [List.getElem_toArray, List.getElem_cons_succ, List.getElem_cons_zero, Act.put, List.setIfInBounds_toArray, List.set_cons_zero, List.set_cons_succ])
        go_wp2
        go_meet
        exact ⟨rfl, ⟨hB3.out.trans (HB5.out.mono hB3.out.size), hst.1, hK3.out.later HB5.out, RowAt.below hR3.out HB5.out, .inl rfl, HBK.out, hg2, hg2⟩⟩
    · go_simp
      refine hK.out _ _ ⟨(HBz.out.cell hg2).trans d1, (HBz.out.cell hg2).trans d3⟩ (fun hsA => ?_)
      clear hK K hHeld
      refine wpAnyH_ready (rs := [6]) (by kernel_rfl) (by simp) ?_
      refine AllReadyH.cons (o := _) rfl (fun K hK => ?_) AllReadyH.nil
      go_simp
      go_at_call 31
      refine (has_any x3 119 _).mono ?_
      rintro e w4 ⟨rfl, rfl⟩
      rw [hc119]
      go_wp2_with fail
      refine hK.out _ _ ⟨(HBz.out.cell hg2).trans d1, (HBz.out.cell hg2).trans d3⟩ (fun hsC => ?_)
      clear hK K
      refine wpAnyH_ready (rs := [10]) (by kernel_rfl) (by simp) ?_
      refine AllReadyH.cons (o := _) rfl (fun K hK => ?_) AllReadyH.nil
      go_simp
      go_at_call 31
      refine (has_any x3 109 _).mono ?_
      rintro e w4 ⟨rfl, rfl⟩
      rw [hc109]
      go_wp2_with fail
      refine hK.out _ _ ⟨(HBz.out.cell hg2).trans d1, (HBz.out.cell hg2).trans d3⟩ (fun hsD => ?_)
      clear hK K
      refine wpAnyH_take (i := 11) (oi := _) (v := ?_) rfl (by kernel_rfl) (by kernel_rfl) (by kernel_rfl) (fun _ _ _ h => h) (Or.inl ⟨by rfl, ?_⟩) (by assumption) ?_; rotate_left; focus (intro W hSw; (try dsimp only at hSw); go_simp; (first | done | with_reducible rfl))
      (try simp only [List.getElem_toArray, List.getElem_cons_succ, List.getElem_cons_zero, Act.put, List.setIfInBounds_toArray, List.set_cons_zero, List.set_cons_succ])
      refine wpAnyH_ready (rs := [13]) (by kernel_rfl) (by simp) ?_
      refine AllReadyH.cons (o := _) rfl (fun K hK => ?_) AllReadyH.nil
      rw [if_pos (by rfl)]
      refine wp_store_mid _ _ _ rfl w3.heap.size 0 #[.int .i64 ((⟨0,x1,0,0,h119,h109,0,0⟩:Kl)).id, .string ((⟨0,x1,0,0,h119,h109,0,0⟩:Kl)).nm, .int .i64 ((⟨0,x1,0,0,h119,h109,0,0⟩:Kl)).lo, .int .i64 ((⟨0,x1,0,0,h119,h109,0,0⟩:Kl)).hi, .bool ((⟨0,x1,0,0,h119,h109,0,0⟩:Kl)).wo, .bool ((⟨0,x1,0,0,h119,h109,0,0⟩:Kl)).me, .int .i64 ((⟨0,x1,0,0,h119,h109,0,0⟩:Kl)).co, .int .i64 ((⟨0,x1,0,0,h119,h109,0,0⟩:Kl)).mo] rfl rfl (KlK.blk_there HZ.out) KlK.size (KlK.one_cell (⟨0,x1,0,0,h119,h109,0,0⟩:Kl)) ?_
      (try simp only [Act.put, List.setIfInBounds_toArray, List.set_cons_zero, List.set_cons_succ, List.toList_toArray])
      refine hK.out _ _ ⟨(HB5.out.cell hg2).trans d1, (HB5.out.cell hg2).trans d3⟩ (fun hsB => ?_)
      clear hK K
      refine wpAnyH_done (by kernel_rfl) ?_ _
      refine NoPanic.normal ?_
      (try simp only [List.getElem_toArray, List.getElem_cons_succ, List.getElem_cons_zero, Act.put, List.setIfInBounds_toArray, List.set_cons_zero, List.set_cons_succ])
      go_wp2
      go_meet
      exact ⟨rfl, ⟨hB3.out.trans (HB5.out.mono hB3.out.size), hst.1, hK3.out.later HB5.out, RowAt.below hR3.out HB5.out, .inl rfl, HBK.out, hg2, hg2⟩⟩
  case rest =>
  obtain ⟨rfl, hP⟩ := hcut
  have HP := Lib.hid hP
  clear hP d1 d3 hc119 hc109 HBK hR3 hK3 hB3
  have d := row_at HP.out.R 0 (by rw [HN.out]; omega)
  go_wp2_with fail
  clear d
  refine (Prs.implParse_any (sAt ws 0) _ (Prs.Glob.below HG.out.1 HP.out.D) Z0.out).mono ?_
  rintro e wq ⟨he, hb⟩
  unfold RdPost at he
  rw [HN0.out] at he
  subst he
  replace HP := Lib.hid (HP.out.later hb)
  obtain ⟨oo, hoo⟩ : ∃ b, Option.isSome (val (sAt ws 0)) = b := ⟨_, rfl⟩
  rw [hoo]
  clear hb hoo
  obtain ⟨⟨c, -⟩, y, -⟩ := blk_cells HP.out.K
  go_upto_region 7 with (fail)
  replace HP := Lib.hid (HP.out.set0 n0)
  clear c y
  generalize World.setCell _ _ _ = wz at *
  go_wp2_with fail
  refine (Prs.implParse_any ca _ (Prs.Glob.below HG.out.1 HP.out.D) YA.out).mono ?_
  rintro e wq ⟨he, hb⟩
  unfold RdPost at he
  rw [HNa.out] at he
  subst he
  replace HP := Lib.hid (HP.out.later hb)
  obtain ⟨oo, hoo⟩ : ∃ b, Option.isSome (val ca) = b := ⟨_, rfl⟩
  rw [hoo]
  clear hb hoo
  obtain ⟨⟨-, -, c, -⟩, -, -, y, -⟩ := blk_cells HP.out.K
  go_upto_region 8 with (fail)
  replace HP := Lib.hid (HP.out.set2 na)
  clear c y
  generalize World.setCell _ _ _ = wz at *
  go_wp2_with fail
  refine (Prs.implParse_any cb _ (Prs.Glob.below HG.out.1 HP.out.D) YB.out).mono ?_
  rintro e wq ⟨he, hb⟩
  unfold RdPost at he
  rw [HNb.out] at he
  subst he
  replace HP := Lib.hid (HP.out.later hb)
  obtain ⟨oo, hoo⟩ : ∃ b, Option.isSome (val cb) = b := ⟨_, rfl⟩
  rw [hoo]
  clear hb hoo
  obtain ⟨⟨-, -, -, c, -⟩, -, -, -, y, -⟩ := blk_cells HP.out.K
  go_upto_region 9 with (fail)
  replace HP := Lib.hid (HP.out.set3 nb)
  clear c y
  generalize World.setCell _ _ _ = wz at *
  have d := row_at HP.out.R 5 (by rw [HN.out]; omega)
  go_wp2_with fail
  clear d
  refine (Prs.implParse_any (sAt ws 5) _ (Prs.Glob.below HG.out.1 HP.out.D) Z5.out).mono ?_
  rintro e wq ⟨he, hb⟩
  unfold RdPost at he
  rw [HN5.out] at he
  subst he
  replace HP := Lib.hid (HP.out.later hb)
  obtain ⟨oo, hoo⟩ : ∃ b, Option.isSome (val (sAt ws 5)) = b := ⟨_, rfl⟩
  rw [hoo]
  clear hb hoo
  obtain ⟨⟨-, -, -, -, -, -, c, -⟩, -, -, -, -, -, -, y, -⟩ := blk_cells HP.out.K
  go_upto_region 10 with (fail)
  replace HP := Lib.hid (HP.out.set6 n5)
  clear c y
  generalize World.setCell _ _ _ = wz at *
  have d := row_at HP.out.R 7 (by rw [HN.out]; omega)
  go_wp2_with fail
  clear d
  refine (Prs.implParse_any (sAt ws 7) _ (Prs.Glob.below HG.out.1 HP.out.D) Z7.out).mono ?_
  rintro e wq ⟨he, hb⟩
  unfold RdPost at he
  rw [HN7.out] at he
  subst he
  replace HP := Lib.hid (HP.out.later hb)
  obtain ⟨oo, hoo⟩ : ∃ b, Option.isSome (val (sAt ws 7)) = b := ⟨_, rfl⟩
  rw [hoo]
  clear hb hoo
  obtain ⟨⟨-, -, -, -, -, -, -, c⟩, -, -, -, -, -, -, -, y⟩ := blk_cells HP.out.K
  go_upto_region 11 with (fail)
  replace HP := Lib.hid (HP.out.set7 n7)
  clear c y
  generalize World.setCell _ _ _ = wz at *
  obtain ⟨m, hm⟩ : ∃ m, canI s = m := ⟨_, rfl⟩
  have HMq := Lib.hid hm
  have HPm := Lib.hid (show PS w w3.heap.size wz ws [] g2 g2 m from by rw [← hm, HM.out]; exact HP.out)
  have HIm := Lib.hid (show Is m from by rw [← hm]; exact HIS.out)
  clear hm HP
  obtain ⟨⟨p0, p1, p2, p3, p4, p5, p6, p7⟩, -⟩ := blk_cells HPm.out.K
  go_wp2_with fail
  clear p0 p1 p2 p3 p4 p5 p6 p7
  refine (KtQ.impl_any m HIm.out _ (Prs.Glob.below HG.out.1 HPm.out.D).tab).mono ?_
  rintro e wc ⟨rfl, hb⟩
  have HPc := Lib.hid (HPm.out.later hb)
  clear hb HPm
  obtain ⟨⟨p0, p1, p2, p3, p4, p5, p6, p7⟩, -⟩ := blk_cells HPc.out.K
  obtain ⟨⟨b0, b1, b2, b3, b4, b5, b6, b7⟩, f0, f1, f2, f3, f4, f5, f6, f7⟩ := blk_cells HPc.out.Q
  by_cases hok : okK m = true
  · have HOK := Lib.hid hok
    have hrt : ktx m = txK m := by unfold ktx; rw [hok]; rfl
    rw [hok, hrt]
    clear hok hrt
    by_cases htx : txK m = s
    · have h1 : ok = true := by rw [← HO.out]; unfold okI; rw [hlen.out, HMq.out, HOK.out, decide_eq_true htx]; rfl
      subst h1
      have h2 : r = m := HR.out.symm.trans HMq.out
      have hq : ((txK m).toList == s.toList) = true := by rw [htx]; simp
      subst h2
      clear htx
      have hgl := HPc.out.lt
      go_wp2
      clear p0 p1 p2 p3 p4 p5 p6 p7
      clear b0 b1 b2 b3 b4 b5 b6 b7 f0 f1 f2 f3 f4 f5 f6 f7
      have hz := blk_all HPc.out.Q r
      have HB9 := Lib.hid (HPc.out.D.trans (hz.2 w.heap.size (Nat.le_refl _)))
      replace hz := hz.1
      generalize ((((((((World.setCell _ _ _).setCell _ _).setCell _ _).setCell _ _).setCell _ _).setCell _ _).setCell _ _).setCell _ _) = w9 at *
      obtain ⟨⟨u0, u1, u2, u3, u4, u5, u6, u7⟩, -⟩ := blk_cells hz
      refine bodyPost_ret (v := .tuple #[.agg #[.int .i64 r.id, .string r.nm, .int .i64 r.lo, .int .i64 r.hi, .bool r.wo, .bool r.me, .int .i64 r.co, .int .i64 r.mo], .bool true]) (by simp [results, Tryz.results9, go_sem, u0, u1, u2, u3, u4, u5, u6, u7]) rfl ⟨rfl, HB9.out⟩
    · have h1 : ok = false := by rw [← HO.out]; unfold okI; rw [HMq.out, decide_eq_false htx]; simp
      subst h1
      have h2 : r = no := HR.out.symm
      have hq := str_beq htx
      subst h2
      clear htx
      go_wp2
      clear p0 p1 p2 p3 p4 p5 p6 p7
      clear b0 b1 b2 b3 b4 b5 b6 b7 f0 f1 f2 f3 f4 f5 f6 f7
      have hz := blk_zero HPc.out.Q
      have HB9 := Lib.hid (HPc.out.D.trans (hz.2 w.heap.size (Nat.le_refl _)))
      replace hz := hz.1
      generalize ((((((((World.setCell _ _ _).setCell _ _).setCell _ _).setCell _ _).setCell _ _).setCell _ _).setCell _ _).setCell _ _) = w9 at *
      obtain ⟨⟨u0, u1, u2, u3, u4, u5, u6, u7⟩, -⟩ := blk_cells hz
      refine bodyPost_ret (v := .tuple #[.agg #[.int .i64 no.id, .string no.nm, .int .i64 no.lo, .int .i64 no.hi, .bool no.wo, .bool no.me, .int .i64 no.co, .int .i64 no.mo], .bool false]) (by simp [results, Tryz.results9, go_sem, u0, u1, u2, u3, u4, u5, u6, u7]) rfl ⟨rfl, HB9.out⟩
  · have hok' : okK m = false := by simpa using hok
    have h1 : ok = false := by rw [← HO.out]; unfold okI; rw [HMq.out, hok']; simp
    subst h1
    have h2 : r = no := HR.out.symm
    subst h2
    rw [hok']
    clear hok hok'
    go_wp2
    clear p0 p1 p2 p3 p4 p5 p6 p7
    clear b0 b1 b2 b3 b4 b5 b6 b7 f0 f1 f2 f3 f4 f5 f6 f7
    have hz := blk_zero HPc.out.Q
    have HB9 := Lib.hid (HPc.out.D.trans (hz.2 w.heap.size (Nat.le_refl _)))
    replace hz := hz.1
    generalize ((((((((World.setCell _ _ _).setCell _ _).setCell _ _).setCell _ _).setCell _ _).setCell _ _).setCell _ _).setCell _ _) = w9 at *
    obtain ⟨⟨u0, u1, u2, u3, u4, u5, u6, u7⟩, -⟩ := blk_cells hz
    refine bodyPost_ret (v := .tuple #[.agg #[.int .i64 no.id, .string no.nm, .int .i64 no.lo, .int .i64 no.hi, .bool no.wo, .bool no.me, .int .i64 no.co, .int .i64 no.mo], .bool false]) (by simp [results, Tryz.results9, go_sem, u0, u1, u2, u3, u4, u5, u6, u7]) rfl ⟨rfl, HB9.out⟩

theorem both (s : ByteArray) (hs : s.size ≤ 1048576) : ∃ (r : Kl) (ok : Bool),
    (∀ w, Calls Tryz.prog 11 #[.string s] w fun e w' => e = .returned (.tuple #[.agg #[.int .i64 r.id, .string r.nm, .int .i64 r.lo, .int .i64 r.hi, .bool r.wo, .bool r.me, .int .i64 r.co, .int .i64 r.mo], .bool ok]) ∧ Below w.heap.size w w') ∧
    (∀ w, Gl w → Calls Tryz.prog 9 #[.string s] w fun e w' => e = .returned (.tuple #[.agg #[.int .i64 r.id, .string r.nm, .int .i64 r.lo, .int .i64 r.hi, .bool r.wo, .bool r.me, .int .i64 r.co, .int .i64 r.mo], .bool ok]) ∧ Below w.heap.size w w') :=
  ⟨ansK s, okS s, fun w => spec_any s hs w, fun w hG => impl_any s hs w hG⟩
end Go.Proofs.YtleoljnofdajfaaGreatDoor.KpI
