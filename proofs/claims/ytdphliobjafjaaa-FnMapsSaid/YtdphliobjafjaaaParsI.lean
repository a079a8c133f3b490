/- The text of a map, read back: the program. -/
import Derived.Test.YtdphliobjafjaaaParsC
import Derived.Test.YtdphliobjafjaaaShelf
import Derived.BigRegion
namespace Go.Proofs.Ytdphliobjafjaaa.ParsI
open Go.RowKit Lb IntS MapS MapV SpecB Emp ParsC
set_option linter.unusedSimpArgs false
set_option linter.unusedVariables false

theorem two_list : ∀ l : List UInt8, l.length = 2 → l = [bAt l 0, bAt l 1]
  | [_, _], _ => rfl
theorem ext_two (s : ByteArray) (q : Nat) (h : q + 2 ≤ s.size) : (s.extract q (q + 2)).toList = [s[q]'(by omega), s[q + 1]'(by omega)] := by
  rw [ByteArray.toList_eq, two_list (s.extract q (q + 2)).data.toList (by
    have : (s.extract q (q + 2)).size = 2 := by rw [ByteArray.size_extract]; omega
    exact this), bAt_extract s q (q + 2) 0 (by omega) h, bAt_extract s q (q + 2) 1 (by omega) h, Nat.add_zero, ← bAt_eq s q (by omega), ← bAt_eq s (q + 1) (by omega)]
theorem ext_yes (s : ByteArray) (q : Nat) (h : q + 2 ≤ s.size) (e : s[q]'(by omega) = 35 ∧ s[q + 1]'(by omega) = 35) : (!(s.extract q (q + 2)).toList == [35, 35]) = false := by
  rw [ext_two s q h, e.1, e.2]; rfl
theorem ext_no (s : ByteArray) (q : Nat) (h : q + 2 ≤ s.size) (e : ¬ (s[q]'(by omega) = 35 ∧ s[q + 1]'(by omega) = 35)) : (!(s.extract q (q + 2)).toList == [35, 35]) = true := by
  rw [ext_two s q h, Bool.not_eq_true', beq_eq_false_iff_ne]
  intro h2
  injection h2 with h3 h4
  injection h4 with h5 _
  exact e ⟨h3, h5⟩

/-- The first 'k' of 'n' numbers, and noughts. -/
def upto (f : Nat → Int) (n k : Nat) : List Int := (List.range n).map fun j => if j < k then f j else 0
theorem upto_length (f : Nat → Int) (n k : Nat) : (upto f n k).length = n := by simp [upto]
theorem upto_zero (f : Nat → Int) (n : Nat) : upto f n 0 = List.replicate n 0 := by
  apply List.ext_getElem <;> simp [upto]
theorem upto_set (f : Nat → Int) (n k : Nat) (hk : k < n) (z : Int) (hz : z = f k) : (upto f n k).set k z = upto f n (k + 1) := by
  subst hz
  apply List.ext_getElem
  · simp [upto]
  · intro j h1 h2
    simp only [upto, List.getElem_set, List.getElem_map, List.getElem_range]
    by_cases e : k = j
    · subst e; simp
    · rw [if_neg e]
      by_cases h : j < k
      · rw [if_pos h, if_pos (by omega)]
      · rw [if_neg h, if_neg (by omega)]
theorem upto_skip (f : Nat → Int) (n k : Nat) (hz : f k = 0) : upto f n k = upto f n (k + 1) := by
  apply List.ext_getElem
  · simp [upto]
  · intro j h1 h2
    simp only [upto, List.getElem_map, List.getElem_range]
    by_cases h : j < k
    · rw [if_pos h, if_pos (by omega)]
    · by_cases e : j = k
      · subst e; simp [hz]
      · rw [if_neg h, if_neg (by omega)]
theorem upto_all (f : Nat → Int) (n : Nat) (zs : List Int) (hl : zs.length = n) (h : ∀ k, k < n → f k = zAt zs k) : upto f n n = zs := by
  apply List.ext_getElem
  · simp [upto, hl]
  · intro j h1 h2
    have hj : j < n := by omega
    simp only [upto, List.getElem_map, List.getElem_range]
    rw [if_pos hj, h j hj, zAt, List.getD_eq_getElem?_getD, List.getElem?_eq_getElem h2]
    rfl

/-- Two rows that are filled, in a map of the call's own. -/
structure Fil (w : World) (g1 g2 g4 : Nat) (p q : Int) (n : Nat) (L1 L2 : List Int) (wr : World) : Prop where
  r : RowB wr g1 L1
  c : RowB wr g2 L2
  out : Blk wr g4 26 #[.int .i64 p, .int .i64 q, .slice (some ⟨g1, 0, none⟩) n n, .slice (some ⟨g2, 0, none⟩) n n]
  res : Blk wr w.heap.size 26 #[.int .i64 0, .int .i64 0, .slice none 0 0, .slice none 0 0]
  b : Below w.heap.size w wr
  h1 : w.heap.size < g1
  h2 : w.heap.size < g2
  h4 : w.heap.size < g4
  n1 : g1 ≠ g2
  n2 : g1 ≠ g4
  n3 : g2 ≠ g4
theorem Fil.drewN {w : World} {g1 g2 g4 : Nat} {p q : Int} {n : Nat} {L1 L2 : List Int} {wr : World} (h : Fil w g1 g2 g4 p q n L1 L2 wr) (k : Nat) : Fil w g1 g2 g4 p q n L1 L2 (wr.drewN k) :=
  ⟨h.r, h.c, h.out, h.res, below_drewN h.b k, h.h1, h.h2, h.h4, h.n1, h.n2, h.n3⟩
theorem Fil.drew {w : World} {g1 g2 g4 : Nat} {p q : Int} {n : Nat} {L1 L2 : List Int} {wr : World} (h : Fil w g1 g2 g4 p q n L1 L2 wr) : Fil w g1 g2 g4 p q n L1 L2 wr.drew :=
  ⟨h.r, h.c, h.out, h.res, h.b.drew, h.h1, h.h2, h.h4, h.n1, h.n2, h.n3⟩
theorem Fil.later {w : World} {g1 g2 g4 : Nat} {p q : Int} {n : Nat} {L1 L2 : List Int} {wr w' : World} (h : Fil w g1 g2 g4 p q n L1 L2 wr) (hb : Below wr.heap.size wr w') : Fil w g1 g2 g4 p q n L1 L2 w' :=
  ⟨Blk.later h.r hb, Blk.later h.c hb, h.out.later hb, h.res.later hb, h.b.trans (hb.mono h.b.size), h.h1, h.h2, h.h4, h.n1, h.n2, h.n3⟩
theorem Fil.putR {w : World} {g1 g2 g4 : Nat} {p q : Int} {n : Nat} {L1 L2 : List Int} {wr : World} (h : Fil w g1 g2 g4 p q n L1 L2 wr) (i : Nat) (z : Int) : Fil w g1 g2 g4 p q n (L1.set i z) L2 (wr.setCell ⟨g1, i, none⟩ (.int .i64 z)) := by
  have := h.h1
  exact ⟨h.r.set_ i z, Blk.far h.c (p := ⟨g1, i, none⟩) (fun e => h.n1 e.symm) _, h.out.far (p := ⟨g1, i, none⟩) (fun e => h.n2 e.symm) _, h.res.far (p := ⟨g1, i, none⟩) (by show w.heap.size ≠ g1; omega) _, h.b.setCell (p := ⟨g1, i, none⟩) (by show w.heap.size ≤ g1; omega) _, h.h1, h.h2, h.h4, h.n1, h.n2, h.n3⟩
theorem Fil.putC {w : World} {g1 g2 g4 : Nat} {p q : Int} {n : Nat} {L1 L2 : List Int} {wr : World} (h : Fil w g1 g2 g4 p q n L1 L2 wr) (i : Nat) (z : Int) : Fil w g1 g2 g4 p q n L1 (L2.set i z) (wr.setCell ⟨g2, i, none⟩ (.int .i64 z)) := by
  have := h.h2
  exact ⟨Blk.far h.r (p := ⟨g2, i, none⟩) (fun e => h.n1 e) _, h.c.set_ i z, h.out.far (p := ⟨g2, i, none⟩) (fun e => h.n3 e.symm) _, h.res.far (p := ⟨g2, i, none⟩) (by show w.heap.size ≠ g2; omega) _, h.b.setCell (p := ⟨g2, i, none⟩) (by show w.heap.size ≤ g2; omega) _, h.h1, h.h2, h.h4, h.n1, h.n2, h.n3⟩

/-- What is answered: the map whose text it is, if there is one. -/
def PPost (w : World) (s : ByteArray) (e : Ending) (w' : World) : Prop :=
  (∃ m ww hh, TextOf m ww hh s ∧ MPost w m true e w') ∨ ((∀ m ww hh, ¬ TextOf m ww hh s) ∧ MPost w noMap false e w')

def fC (s : ByteArray) (c : Nat) : Int := pc (bAt s.data.toList (3 * c)) (bAt s.data.toList (3 * c + 1))
def fR (s : ByteArray) (c : Nat) : Int := pr (bAt s.data.toList (3 * c)) (bAt s.data.toList (3 * c + 1))

theorem idx_any (s : ByteArray) (w : World) (z : Int) (hz : Lib.indexByte s.data.toList 10 = z) :
    Calls Try.prog 63 #[.string s, .int .u8 10] w fun e w' => e = .returned (.int .i64 z) ∧ w' = w := by
  have := Try.strings_IndexByte s 10 w
  rw [← hz]
  exact this

set_option maxRecDepth 100000 in
set_option maxHeartbeats 4000000 in
theorem parse_any (s : ByteArray) (w : World) (hs : s.size ≤ 1048576) :
    Calls Try.prog 24 #[.string s] w (PPost w s) := by
  have hge := Lib.indexByte_ge s.data.toList 10
  obtain ⟨ix, hix⟩ : ∃ ix : Nat, Lib.indexByte s.data.toList 10 = (ix : Int) - 1 := ⟨(Lib.indexByte s.data.toList 10 + 1).toNat, by omega⟩
  have hixs : ix ≤ s.size := by
    rcases Nat.eq_zero_or_pos ix with h | h
    · omega
    · have h1 := (Lib.indexByte_some (o := ix - 1) (by rw [hix]; omega)).1
      have h2 : ix - 1 < s.data.toList.length := by
        rcases Nat.lt_or_ge (ix - 1) s.data.toList.length with h | h
        · exact h
        · rw [List.getElem?_eq_none h] at h1; cases h1
      have h3 : s.data.toList.length = s.size := Array.length_toList
      omega
  obtain ⟨W, hW⟩ : ∃ W, ix / 3 = W := ⟨_, rfl⟩
  obtain ⟨n0, hn0⟩ : ∃ n0, s.size / 3 = n0 := ⟨_, rfl⟩
  have hWi : (ix : Int) / 3 = (W : Int) := by omega
  have hni : (s.size : Int) / 3 = (n0 : Int) := by omega
  have HIX := Lib.hid hix
  have HWH := Lib.hid (And.intro hW hn0)
  have HT := Lib.hid (show ∀ m ww hh, TextOf m ww hh s → 1 ≤ ww ∧ W = ww ∧ n0 = ww * hh ∧ ww * hh ≤ 36 from by
    intro m ww hh t
    have t1 := t.first
    have t2 := t.size
    have t3 := t.g.w1
    have t4 := t.g.n36
    rw [hix] at t1
    have t5 : ix = 3 * ww := by omega
    exact ⟨t3, by omega, by omega, t4⟩)
  have HB := Lib.hid ((Below.refl w.heap.size w).alloc (Nat.le_refl _) (.cells #[.int .i64 0, .int .i64 0, .slice none 0 0, .slice none 0 0] 26))
  have HQ0 := Lib.hid (Blk.new w 26 #[.int .i64 0, .int .i64 0, .slice none 0 0, .slice none 0 0])
  clear hix hge hW hn0
  go_enter Try.func24, Try.ntmps24
  go_wp2_with fail
  refine (idx_any s _ _ HIX.out).mono ?_
  rintro e w1 ⟨rfl, rfl⟩
  by_cases hbad : W = 0 ∨ 36 < n0
  · have HNO := Lib.hid (show ∀ m ww hh, ¬ TextOf m ww hh s from fun m ww hh t => by
      obtain ⟨t1, t2, t3, t4⟩ := HT.out m ww hh t
      omega)
    obtain ⟨r0, r1, r2, r3, l0, l1, l2, l3⟩ := HQ0.out.four
    by_cases hW0 : W = 0
    · have e1 : ((W : Int) == 0) = true := by simp; omega
      clear hbad hW0
      go_wp2
      refine bodyPost_ret (v := .tuple #[.agg #[.int .i64 0, .int .i64 0, .slice none 0 0, .slice none 0 0], .bool false]) (by simp [results, Try.results24, go_sem, r0, r1, r2, r3]) rfl (.inr ⟨HNO.out, _, rfl, own_none _ _, ?_⟩)
      repeat (refine Below.setCell ?_ (by simp) _)
      exact HB.out
    · have e1 : ((W : Int) == 0) = false := by simp; omega
      have e2 : decide ((36 : Int) < (n0 : Int)) = true := by simp; omega
      clear hbad hW0
      go_wp2
      refine bodyPost_ret (v := .tuple #[.agg #[.int .i64 0, .int .i64 0, .slice none 0 0, .slice none 0 0], .bool false]) (by simp [results, Try.results24, go_sem, r0, r1, r2, r3]) rfl (.inr ⟨HNO.out, _, rfl, own_none _ _, ?_⟩)
      repeat (refine Below.setCell ?_ (by simp) _)
      exact HB.out
  · have hW0 : 0 < W := by omega
    have hn36 : n0 ≤ 36 := by omega
    obtain ⟨H, hH⟩ : ∃ H, n0 / W = H := ⟨_, rfl⟩
    have hHi : (n0 : Int) / (W : Int) = (H : Int) := by rw [← hH]; simp
    have hn : W * H ≤ n0 := by rw [← hH]; exact Nat.mul_div_le _ _
    have hW36 : W ≤ 36 := by have := HWH.out; omega
    have hH36 : H ≤ 36 := by rw [← hH]; exact Nat.le_trans (Nat.div_le_self _ _) hn36
    have e1 : ((W : Int) == 0) = false := by simp; omega
    have e2 : decide ((36 : Int) < (n0 : Int)) = false := by simp; omega
    have HH := Lib.hid hH
    clear hbad hH
    go_wp2_with fail
    refine (emp_big W H (W * H) _ rfl (by omega) hW36 hH36).mono ?_
    rintro e w2 ⟨g1, g2, rfl, hr1, hr2, hg1, hg2, hne, hb2⟩
    have hl1 := Blk.lt hr1
    have hl2 := Blk.lt hr2
    have hw12 := hb2.size
    simp only [World.size_alloc] at hg1 hg2 hw12
    have HF0 := Lib.hid (show Fil w g1 g2 w2.heap.size W H (W * H) (upto (fR s) (W * H) 0) (upto (fC s) (W * H) 0) (w2.alloc (.cells #[.int .i64 W, .int .i64 H, .slice (some ⟨g1, 0, none⟩) (W * H) (W * H), .slice (some ⟨g2, 0, none⟩) (W * H) (W * H)] 26)) from by
      rw [upto_zero, upto_zero]
      exact ⟨hr1.alloc _, hr2.alloc _, Blk.new _ _ _, (HQ0.out.later hb2).alloc _, (HB.out.trans (hb2.mono (by simp))).alloc (by omega) _, by omega, by omega, by omega, hne, by omega, by omega⟩)
    have HKx := Lib.hid (HQ0.out.later hb2)
    clear hr1 hr2 hg1 hg2 hne hb2 hl1 hl2
    have hnl : 3 * (W * H) ≤ s.size := by have := HWH.out; omega
    have hn36' : W * H ≤ 36 := by omega
    go_wp2_with fail
    go_loopg [33] (W * H) (fun k si wr => ∃ c : Nat, c ≤ W * H ∧ k = W * H - c ∧ si = .int .i64 c ∧ Fil w g1 g2 w2.heap.size W H (W * H) (upto (fR s) (W * H) c) (upto (fC s) (W * H) c) wr)
    case atStart => exact ⟨0, Nat.zero_le _, rfl, rfl, HF0.out⟩
    case round =>
      obtain ⟨c, hcn, hkc, rfl, hF⟩ := hrel
      have HF := Lib.hid hF
      clear hF HF0
      by_cases hlt : c < W * H
      · obtain ⟨q, hq⟩ : ∃ q, 3 * c = q := ⟨_, rfl⟩
        have hqi : (c : Int) * 3 = (q : Int) := by omega
        have hqs : q + 2 ≤ s.size := by omega
        have hqs1 : q + 1 < s.size := by omega
        have hqs0 : q < s.size := by omega
        have hb0 := bAt_eq s q hqs0
        have hb1 := bAt_eq s (q + 1) hqs1
        have HFC := Lib.hid (show fC s c = pc s[q] s[q + 1] from by unfold fC; rw [hq, hb0, hb1])
        have HFR := Lib.hid (show fR s c = pr s[q] s[q + 1] from by unfold fR; rw [hq, hb0, hb1])
        have HQ := Lib.hid hq
        clear hb0 hb1 hq
        obtain ⟨q0, q1, q2, q3, -⟩ := HF.out.out.four
        go_upto_if 43 with (fail)
        by_cases hh : s[q] = 35 ∧ s[q + 1] = 35
        · have hx := ext_yes s q hqs hh
          have HSC := Lib.hid (upto_skip (fC s) (W * H) c (by rw [HFC.out]; unfold pc; rw [if_pos hh]))
          have HSR := Lib.hid (upto_skip (fR s) (W * H) c (by rw [HFR.out]; unfold pr; rw [if_pos hh]))
          clear hh
          rw [hx]
          go_wp2_with fail
          go_roundg (W * H - (c + 1))
          all_goals first
            | (show _ < _; omega)
            | exact ⟨c + 1, by omega, rfl, by go_num, by rw [← HSC.out, ← HSR.out]; first | exact HF.out | exact HF.out.drewN _⟩
        · have hx := ext_no s q hqs hh
          have HSC := Lib.hid (upto_set (fC s) (W * H) c hlt ((s[q].toNat : Int) - 48) (by rw [HFC.out]; unfold pc; rw [if_neg hh]))
          have HSR := Lib.hid (upto_set (fR s) (W * H) c hlt ((s[q + 1].toNat : Int) - 48) (by rw [HFR.out]; unfold pr; rw [if_neg hh]))
          have hz0 := s[q].toNat_lt
          have hz1 := s[q + 1].toNat_lt
          have k3 : (0 : Int) ≤ (c : Int) := by omega
          have k5 : (c : Int).toNat = c := by omega
          obtain ⟨e2, e3⟩ := HF.out.c.cell c (by rw [upto_length]; exact hlt)
          clear hh
          rw [hx]
          go_upto_region 11 with (fail)
          go_cut [] from 44 to 52 (fun wx => Fil w g1 g2 w2.heap.size W H (W * H) (upto (fR s) (W * H) c) (upto (fC s) (W * H) (c + 1)) wx)
          case first =>
            go_region
            all_goals go_wp2_with fail
            all_goals go_meet
            all_goals (rw [← HSC.out]; exact (HF.out.putC c ((s[q].toNat : Int) - 48)).drew)
          case rest =>
          have HF2 := Lib.hid hcut
          clear hcut q0 q1 q2 q3 e2 e3
          obtain ⟨q0, q1, q2, q3, -⟩ := HF2.out.out.four
          obtain ⟨e2, e3⟩ := HF2.out.r.cell c (by rw [upto_length]; exact hlt)
          go_upto_region 12 with (fail)
          have k6 : IntKind.i64.wrap ((q : Int) + 1) = (q : Int) + 1 := IntWalk.i64_in _ (by omega)
          have k7 : (0 : Int) ≤ (q : Int) + 1 := by omega
          have k8 : (q : Int) + 1 < (s.size : Int) := by omega
          have k9 : ((q : Int) + 1).toNat = q + 1 := by omega
          go_region
          all_goals go_wp2_with fail
          all_goals go_roundg (W * H - (c + 1))
          all_goals first
            | (show _ < _; omega)
            | exact ⟨c + 1, by omega, rfl, by go_num, by rw [← HSR.out]; exact (HF2.out.putR c ((s[q + 1].toNat : Int) - 48)).drew⟩
      · obtain rfl : c = W * H := by omega
        obtain ⟨m, hm⟩ : ∃ m : Mp, m = ⟨W, H, upto (fR s) (W * H) (W * H), upto (fC s) (W * H) (W * H)⟩ := ⟨_, rfl⟩
        obtain ⟨l, ok, hti, hM⟩ := impl_t m
        obtain ⟨t, ht⟩ : ∃ t, bs l = t := ⟨_, rfl⟩
        have HM := Lib.hid (show ∀ w, RowB w g1 m.R → RowB w g2 m.C → Calls Try.prog 23 #[.agg #[.int .i64 W, .int .i64 H, .slice (some ⟨g1, 0, none⟩) (W * H : Nat) (W * H), .slice (some ⟨g2, 0, none⟩) (W * H : Nat) (W * H)]] w fun e w' => e = .returned (.tuple #[.string t, .bool ok]) ∧ Below w.heap.size w w' from fun w h1 h2 => by
          have hl : m.R.length = W * H := by rw [hm]; exact upto_length _ _ _
          have hl2 : m.C.length = W * H := by rw [hm]; exact upto_length _ _ _
          have h := hM (some ⟨g1, 0, none⟩) (some ⟨g2, 0, none⟩) (W * H) (W * H) w (by rw [hl]; unfold maxLen; omega) (by rw [hl2]; unfold maxLen; omega) (RowB.row h1) (RowB.row h2)
          rw [hl, hl2, ht] at h
          subst hm
          exact h)
        have HFm := Lib.hid (show Fil w g1 g2 w2.heap.size W H (W * H) m.R m.C wr from by rw [hm]; exact HF.out)
        have HWm := Lib.hid (show m.W = W ∧ m.H = H ∧ m.R.length = W * H ∧ m.C.length = W * H from by rw [hm]; exact ⟨rfl, rfl, upto_length _ _ _, upto_length _ _ _⟩)
        have HU := Lib.hid (show ∀ m' ww hh, TextOf m' ww hh s → m' = m from fun m' ww hh T => by
          obtain ⟨t1, t2, t3, t4⟩ := HT.out m' ww hh T
          have hHh : H = hh := by rw [← HH.out, t3, t2]; exact Nat.mul_div_cancel_left hh (by omega)
          have t5 := T.g.R
          have t6 := T.g.C
          subst t2 hHh
          rw [hm, mp_eq T.g, upto_all (fR s) _ m'.R t5 (fun k hk => by unfold fR; rw [T.at0 k hk, T.at1 k hk]; exact (T.cellF k hk).2.1), upto_all (fC s) _ m'.C t6 (fun k hk => by unfold fC; rw [T.at0 k hk, T.at1 k hk]; exact (T.cellF k hk).1)])
        have HTI := Lib.hid hti
        have HTL := Lib.hid ht
        clear hm hti hM ht HF
        obtain ⟨q0, q1, q2, q3, -⟩ := HFm.out.out.four
        go_wp2_with fail
        refine (HM.out _ HFm.out.r HFm.out.c).mono ?_
        rintro e w5 ⟨rfl, hb5⟩
        have HF5 := Lib.hid (HFm.out.later hb5)
        clear hb5 q0 q1 q2 q3
        obtain ⟨q0, q1, q2, q3, f0, f1, f2, f3⟩ := HF5.out.out.four
        obtain ⟨r0, r1, r2, r3, l0, l1, l2, l3⟩ := HF5.out.res.four
        cases ok with
        | false =>
          have HNO := Lib.hid (show ∀ m ww hh, ¬ TextOf m ww hh s from fun m' ww hh T => by
            have e := HU.out m' ww hh T
            subst e
            have := (HTI.out.all ww hh s T).1
            cases this)
          go_wp2
          refine bodyPost_ret (v := .tuple #[.agg #[.int .i64 0, .int .i64 0, .slice none 0 0, .slice none 0 0], .bool false]) (by simp [results, Try.results24, go_sem, r0, r1, r2, r3]) rfl (.inr ⟨HNO.out, _, rfl, own_none _ _, ?_⟩)
          repeat (refine Below.setCell ?_ (by simp) _)
          exact HF5.out.b
        | true =>
          by_cases hts : t = s
          · have HYES := Lib.hid (show ∃ ww hh, TextOf m ww hh s from by
              obtain ⟨ww, hh, T⟩ := HTI.out.some_ rfl
              rw [HTL.out, hts] at T
              exact ⟨ww, hh, T⟩)
            have hx : (!t.toList == s.toList) = false := by rw [hts]; simp
            clear hts
            go_wp2
            refine bodyPost_ret (v := .tuple #[.agg #[.int .i64 W, .int .i64 H, .slice (some ⟨g1, 0, none⟩) (W * H : Nat) (W * H), .slice (some ⟨g2, 0, none⟩) (W * H : Nat) (W * H)], .bool true]) (by simp [results, Try.results24, go_sem, q0, q1, q2, q3, r0, r1, r2, r3]) rfl (.inl ?_)
            obtain ⟨ww, hh, T⟩ := HYES.out
            obtain ⟨z1, z2, z3, z4⟩ := HWm.out
            refine ⟨m, ww, hh, T, _, rfl, ⟨some ⟨g1, 0, none⟩, W * H, some ⟨g2, 0, none⟩, W * H, ?_, ?_, ?_, ?_⟩, ?_⟩
            · rw [z1, z2, z3, z4]
            · have h1 := HF5.out.h1
              have h := HF5.out.r.own (base := w.heap.size + 1) (by omega) (by rw [z3]; unfold maxLen; omega)
              unfold OwnI at h
              rw [z3] at h
              refine rebase (b := w.heap.size + 1) ?_ (by omega)
              repeat (refine ownsRow_setCell_below ?_ (by simp) _)
              rw [z3]
              exact h
            · have h1 := HF5.out.h2
              have h := HF5.out.c.own (base := w.heap.size + 1) (by omega) (by rw [z4]; unfold maxLen; omega)
              unfold OwnI at h
              rw [z4] at h
              refine rebase (b := w.heap.size + 1) ?_ (by omega)
              repeat (refine ownsRow_setCell_below ?_ (by simp) _)
              rw [z4]
              exact h
            · intro x y hx hy
              cases hx
              cases hy
              exact HF5.out.n1
            · repeat (refine Below.setCell ?_ (by simp) _)
              exact HF5.out.b
          · have HNO := Lib.hid (show ∀ m ww hh, ¬ TextOf m ww hh s from fun m' ww hh T => by
              have e := HU.out m' ww hh T
              subst e
              have := (HTI.out.all ww hh s T).2
              rw [HTL.out] at this
              exact hts this)
            have hx : (!t.toList == s.toList) = true := str_neq hts
            clear hts
            go_wp2
            refine bodyPost_ret (v := .tuple #[.agg #[.int .i64 0, .int .i64 0, .slice none 0 0, .slice none 0 0], .bool false]) (by simp [results, Try.results24, go_sem, r0, r1, r2, r3]) rfl (.inr ⟨HNO.out, _, rfl, own_none _ _, ?_⟩)
            repeat (refine Below.setCell ?_ (by simp) _)
            exact HF5.out.b

end Go.Proofs.Ytdphliobjafjaaa.ParsI
