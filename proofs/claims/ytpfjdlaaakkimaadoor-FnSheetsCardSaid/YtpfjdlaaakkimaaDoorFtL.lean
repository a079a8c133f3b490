/- Lists of features: what they are in memory; the laws' own helpers over them. -/
import Derived.Test.YtpfjdlaaakkimaaDoorFtO
import Derived.RegionTactic
import Derived.Deep.RegionHeld3
namespace Go.Proofs.YtpfjdlaaakkimaaDoor.FtL
open Go.RowKit Lb Bk FtS
set_option linter.unusedSimpArgs false
set_option linter.unusedVariables false

def noF : Ft := ⟨0, ⟨#[]⟩, ⟨#[]⟩, ⟨#[]⟩, ⟨#[]⟩⟩
def fAt (fs : List Ft) (i : Nat) : Ft := fs.getD i noF
def cF (f : Ft) : Nat → Value
  | 0 => .int .i64 f.c
  | 1 => .string f.wh
  | 2 => .string f.wt
  | 3 => .string f.lk
  | _ => .string f.sd

/-- A list of features that can be read. -/
def FRow (w : World) (a : Option Addr) (n : Nat) (h : Nat → Ft) : Prop := n = 0 ∨ ∃ b off, a = some ⟨b, off, none⟩ ∧ ∀ i, i < n → ∀ j, j < 5 → w.cell? ⟨b, off + i * 5 + j, none⟩ = some (cF (h i) j)
theorem FRow.later {w w' : World} {a : Option Addr} {n : Nat} {h : Nat → Ft} (H : FRow w a n h) (hb : Below w.heap.size w w') : FRow w' a n h := by
  rcases H with H | ⟨b, off, ha, hc⟩
  · exact .inl H
  · exact .inr ⟨b, off, ha, fun i hi j hj => (hb.cell (World.block_lt_of_cell? w _ (hc i hi j hj))).trans (hc i hi j hj)⟩
theorem FRow.five {w : World} {a : Option Addr} {n : Nat} {h : Nat → Ft} (H : FRow w a n h) {i : Nat} (hi : i < n) : ∃ b off, a = some ⟨b, off, none⟩ ∧ w.cell? ⟨b, off + i * 5, none⟩ = some (.int .i64 (h i).c) ∧ w.cell? ⟨b, off + i * 5 + 1, none⟩ = some (.string (h i).wh) ∧ w.cell? ⟨b, off + i * 5 + 2, none⟩ = some (.string (h i).wt) ∧ w.cell? ⟨b, off + i * 5 + 3, none⟩ = some (.string (h i).lk) ∧ w.cell? ⟨b, off + i * 5 + 4, none⟩ = some (.string (h i).sd) := by
  rcases H with H | ⟨b, off, ha, hc⟩
  · omega
  · exact ⟨b, off, ha, hc i hi 0 (by omega), hc i hi 1 (by omega), hc i hi 2 (by omega), hc i hi 3 (by omega), hc i hi 4 (by omega)⟩

/-- A block of features. -/
def BlkF (w : World) (g : Nat) (n : Nat) (h : Nat → Ft) : Prop := ∃ cs, Blk w g 25 cs ∧ ∀ i, i < n → ∀ j, j < 5 → cs[i * 5 + j]? = some (cF (h i) j)
theorem BlkF.lt {w : World} {g n : Nat} {h : Nat → Ft} (H : BlkF w g n h) : g < w.heap.size := by obtain ⟨cs, hb, _⟩ := H; exact hb.lt
theorem BlkF.later {w w' : World} {g n : Nat} {h : Nat → Ft} (H : BlkF w g n h) (hb : Below w.heap.size w w') : BlkF w' g n h := by
  obtain ⟨cs, hB, hc⟩ := H
  exact ⟨cs, hB.later hb, hc⟩
theorem BlkF.row {w : World} {g n : Nat} {h : Nat → Ft} (H : BlkF w g n h) : FRow w (some ⟨g, 0, none⟩) n h := by
  obtain ⟨cs, hB, hc⟩ := H
  exact .inr ⟨g, 0, rfl, fun i hi j hj => by rw [Nat.zero_add]; exact hB.cell _ (hc i hi j hj)⟩
theorem BlkF.congr {w : World} {g n : Nat} {h h' : Nat → Ft} (H : BlkF w g n h) (e : ∀ i, i < n → h i = h' i) : BlkF w g n h' := by
  obtain ⟨cs, hB, hc⟩ := H
  exact ⟨cs, hB, fun i hi j hj => by rw [hc i hi j hj, e i hi]⟩
theorem BlkF.cells {w : World} {g n : Nat} {h : Nat → Ft} (H : BlkF w g n h) {i : Nat} (hi : i < n) :
    w.cell? ⟨g, i * 5, none⟩ = some (.int .i64 (h i).c) ∧ w.cell? ⟨g, i * 5 + 1, none⟩ = some (.string (h i).wh) ∧ w.cell? ⟨g, i * 5 + 2, none⟩ = some (.string (h i).wt) ∧ w.cell? ⟨g, i * 5 + 3, none⟩ = some (.string (h i).lk) ∧ w.cell? ⟨g, i * 5 + 4, none⟩ = some (.string (h i).sd) ∧
      ∀ k, w.frozen? ⟨g, k, none⟩ = false := by
  obtain ⟨cs, hB, hc⟩ := H
  exact ⟨hB.cell _ (hc i hi 0 (by omega)), hB.cell _ (hc i hi 1 (by omega)), hB.cell _ (hc i hi 2 (by omega)), hB.cell _ (hc i hi 3 (by omega)), hB.cell _ (hc i hi 4 (by omega)), fun k => hB.frozen k⟩
theorem BlkF.put {w : World} {g n : Nat} {h : Nat → Ft} (H : BlkF w g n h) {k : Nat} (hk : k < n) (f : Ft) :
    BlkF (((((w.setCell ⟨g, k * 5, none⟩ (.int .i64 f.c)).setCell ⟨g, k * 5 + 1, none⟩ (.string f.wh)).setCell ⟨g, k * 5 + 2, none⟩ (.string f.wt)).setCell ⟨g, k * 5 + 3, none⟩ (.string f.lk)).setCell ⟨g, k * 5 + 4, none⟩ (.string f.sd)) g n (fun i => if i = k then f else h i) := by
  obtain ⟨cs, hB, hc⟩ := H
  refine ⟨_, ((((hB.set_ (k * 5) _).set_ (k * 5 + 1) _).set_ (k * 5 + 2) _).set_ (k * 5 + 3) _).set_ (k * 5 + 4) _, fun i hi j hj => ?_⟩
  have h0 := hc i hi j hj
  have hsz : i * 5 + j < cs.size := (Array.getElem?_eq_some_iff.1 h0).1
  simp only [Array.getElem?_setIfInBounds, Array.size_setIfInBounds]
  by_cases e : i = k
  · subst e
    obtain rfl | rfl | rfl | rfl | rfl : j = 0 ∨ j = 1 ∨ j = 2 ∨ j = 3 ∨ j = 4 := by omega
    all_goals simp [cF]; try omega
  · rw [if_neg (by omega), if_neg (by omega), if_neg (by omega), if_neg (by omega), if_neg (by omega), if_neg e]
    exact h0

theorem fInfo : (Tryd.prog.info? 25).map (fun i => (i.zero, i.size, i.bytes)) = some (some (.agg #[.int .i64 noF.c, .string noF.wh, .string noF.wt, .string noF.lk, .string noF.sd]), 5, 72) := by kernel_rfl

theorem made_blk (w : World) (n : Nat) : BlkF (w.alloc (.cells (madeCells #[.int .i64 noF.c, .string noF.wh, .string noF.wt, .string noF.lk, .string noF.sd] (n * 5)) 25)) w.heap.size n (fun _ => noF) := by
  refine ⟨_, Blk.new w _ _, fun i hi j hj => ?_⟩
  unfold madeCells
  rw [Array.getElem?_map, Array.getElem?_range, if_pos (by omega)]
  show some ((#[.int .i64 noF.c, .string noF.wh, .string noF.wt, .string noF.lk, .string noF.sd] : Array Value)[(i * 5 + j) % 5]!) = _
  rw [show (i * 5 + j) % 5 = j by omega]
  obtain rfl | rfl | rfl | rfl | rfl : j = 0 ∨ j = 1 ∨ j = 2 ∨ j = 3 ∨ j = 4 := by omega
  all_goals rfl

set_option maxHeartbeats 2000000 in
theorem toS_any (a : Option Addr) (cap n : Nat) (h : Nat → Ft) (w : World) (hr : FRow w a n h) (hl : n ≤ 1048576) :
    Calls Tryd.prog 39 #[.slice a n cap] w fun e w' => ∃ g, e = .returned (.slice (some ⟨g, 0, none⟩) n n) ∧ BlkF w' g n h ∧ w.heap.size ≤ g ∧ Below w.heap.size w w' := by
  obtain ⟨t0, hi, hz0, hz1, hz2⟩ := info_parts fInfo
  have hmk : (Instr.makeSlice 40 (.int .i64 (n : Int)) (.int .i64 (n : Int))).run Tryd.prog w = .ok (.slice (some ⟨w.heap.size, 0, none⟩) n n) (w.alloc (.cells (madeCells #[.int .i64 noF.c, .string noF.wh, .string noF.wt, .string noF.lk, .string noF.sd] (n * 5)) 25)) := by
    have h := run_make (P := Tryd.prog) w 40 25 t0 (.agg #[.int .i64 noF.c, .string noF.wh, .string noF.wt, .string noF.lk, .string noF.sd]) Tryd.underlying40 hi hz0 .i64 .i64 n n (by omega) (Int.le_refl _) (by rw [hz2]; omega) (by omega)
    simp only [Int.toNat_natCast, hz1] at h
    exact h
  have H := Lib.hid hr
  have HM := Lib.hid (made_blk w n)
  have HB := Lib.hid ((Below.refl w.heap.size w).alloc (Nat.le_refl _) (.cells (madeCells #[.int .i64 noF.c, .string noF.wh, .string noF.wt, .string noF.lk, .string noF.sd] (n * 5)) 25))
  clear hr hi hz0 hz1 hz2
  go_enter Tryd.func39, Tryd.ntmps39
  go_wp2
  go_loopw [4] (fun i wr => ∃ k : Nat, k ≤ n ∧ i = .int .i64 k ∧ BlkF wr w.heap.size n (fun i => if i < k then h i else noF) ∧ Below w.heap.size w wr) (fun i _ => n - (intOf i).toNat)
  case atStart => exact ⟨0, Nat.zero_le _, rfl, HM.out.congr fun i _ => by simp, HB.out⟩
  case round =>
    obtain ⟨k, hk, rfl, ho, hb⟩ := hrel
    by_cases hlt : k < n
    · obtain ⟨b, off, rfl, c0, c1, c2, c3, c4⟩ := (H.out.later hb).five hlt
      have HO := Lib.hid ho
      have HBr := Lib.hid hb
      clear ho hb
      go_wp2_with fail
      refine (to_any (h k) _).mono ?_
      rintro e w2 ⟨rfl, hb2⟩
      have HO2 := Lib.hid (HO.out.later hb2)
      have HB2 := Lib.hid (HBr.out.trans (hb2.mono HBr.out.size))
      have HP := Lib.hid (HO2.out.put hlt (h k))
      clear hb2 c0 c1 c2 c3 c4
      obtain ⟨d0, d1, d2, d3, d4, fz⟩ := HO2.out.cells hlt
      have f0 := fz (k * 5)
      have f1 := fz (k * 5 + 1)
      have f2 := fz (k * 5 + 2)
      have f3 := fz (k * 5 + 3)
      have f4 := fz (k * 5 + 4)
      clear fz
      go_wp2
      go_roundw
      case rel =>
        refine ⟨k + 1, by omega, by go_num, HP.out.congr fun i _ => ?_, ?_⟩
        · by_cases e : i = k
          · rw [if_pos e, if_pos (by omega), e]
          · rw [if_neg e]
            by_cases e2 : i < k
            · rw [if_pos e2, if_pos (by omega)]
            · rw [if_neg e2, if_neg (by omega)]
        · iterate 5 (refine Below.setCell ?_ (by simp) _)
          exact HB2.out
      case measure => simp [intOf]; omega
    · obtain rfl : k = n := by omega
      go_wp2
      go_ret
      exact ⟨_, rfl, ho.congr fun i hi => if_pos hi, Nat.le_refl _, hb⟩

/-- The lengths of the first 'k' features' words. -/
def totF (h : Nat → Ft) : Nat → Int
  | 0 => 0
  | k + 1 => totF h k + szF (h k)
theorem szF_nn (f : Ft) : 0 ≤ szF f := by unfold szF; omega
theorem totF_nn (h : Nat → Ft) : ∀ k, 0 ≤ totF h k
  | 0 => Int.le_refl _
  | k + 1 => by have := totF_nn h k; have := szF_nn (h k); rw [totF]; omega
/-- What is left, if it is not negative, says that the list is short, and all words together. -/
def SzPost (n : Nat) (h : Nat → Ft) (left : Int) (e : Ending) : Prop := ∃ r : Int, e = .returned (.int .i64 r) ∧ (r = -1 ∨ (0 ≤ r ∧ r = left - n - totF h n))

set_option maxHeartbeats 2000000 in
theorem szS_any (a : Option Addr) (cap n : Nat) (h : Nat → Ft) (left : Int) (w : World) (hr : FRow w a n h) (hf : ∀ i, i < n → IsFt (h i)) (hl : n ≤ maxLen) (h0 : 0 ≤ left) (h1 : left ≤ 1048576) :
    Calls Tryd.prog 38 #[.slice a n cap, .int .i64 left] w fun e w' => SzPost n h left e ∧ Below w.heap.size w w' := by
  unfold maxLen at hl
  have H := Lib.hid hr
  have HF := Lib.hid hf
  clear hr hf
  by_cases hlt0 : left - n < 0
  · go_enter Tryd.func38, Tryd.ntmps38
    go_wp2
    go_ret
    exact ⟨⟨-1, rfl, .inl rfl⟩, Below.refl _ _⟩
  · go_enter Tryd.func38, Tryd.ntmps38
    go_wp2
    go_loopw [1, 5] (fun l i wr => ∃ k : Nat, k ≤ n ∧ i = .int .i64 k ∧ 0 ≤ left - n - totF h k ∧ l = .int .i64 (left - n - totF h k) ∧ Below w.heap.size w wr) (fun _ i _ => n - (intOf i).toNat)
    case atStart => exact ⟨0, Nat.zero_le _, rfl, by simp [totF]; omega, by simp [totF], Below.refl _ _⟩
    case round =>
      obtain ⟨k, hk, rfl, hp, rfl, hb⟩ := hrel
      have hnn := totF_nn h k
      have HBr := Lib.hid hb
      by_cases hlt : k < n
      · obtain ⟨b, off, rfl, c0, c1, c2, c3, c4⟩ := (H.out.later hb).five hlt
        have HT := Lib.hid (show totF h (k + 1) = totF h k + szF (h k) from rfl)
        have hs0 := szF_nn (h k)
        clear hb
        obtain ⟨t, ht⟩ : ∃ t, totF h k = t := ⟨_, rfl⟩
        rw [ht] at hp hnn HT ⊢
        clear ht
        by_cases hfit : szF (h k) ≤ left - n - t
        · have hd : decide (left - (n : Int) - t - szF (h k) < 0) = false := decide_eq_false (by omega)
          have HZ := Lib.hid hfit
          clear hfit
          go_wp2_with fail
          refine (sz_yes (h k) _ _ (by omega) HZ.out).mono ?_
          rintro e w2 ⟨rfl, hb2⟩
          have HB2 := Lib.hid (HBr.out.trans (hb2.mono HBr.out.size))
          clear hb2 c0 c1 c2 c3 c4
          go_wp2
          go_roundw
          case rel => exact ⟨k + 1, by omega, by go_num, by rw [HT.out]; have := HZ.out; omega, by rw [HT.out]; exact congrArg (Value.int IntKind.i64) (by omega), HB2.out⟩
          case measure => simp [intOf]; omega
        · go_wp2_with fail
          refine (sz_no (h k) (HF.out k hlt) _ _ (by omega) (by omega) (by omega)).mono ?_
          rintro e w2 ⟨rfl, hb2⟩
          have HB2 := Lib.hid (HBr.out.trans (hb2.mono HBr.out.size))
          clear hb2
          go_wp2
          go_ret
          exact ⟨⟨-1, rfl, .inl rfl⟩, HB2.out⟩
      · obtain rfl : k = n := by omega
        go_wp2
        go_ret
        exact ⟨⟨_, rfl, .inr ⟨hp, rfl⟩⟩, HBr.out⟩

set_option maxHeartbeats 2000000 in
theorem eqS_same (a b : Option Addr) (cap cap' n : Nat) (h : Nat → Ft) (w : World) (hr : FRow w a n h) (hr' : FRow w b n h) (hl : n ≤ maxLen) :
    Calls Tryd.prog 40 #[.slice a n cap, .slice b n cap'] w fun e w' => e = .returned (.bool true) ∧ Below w.heap.size w w' := by
  unfold maxLen at hl
  have H := Lib.hid hr
  have H' := Lib.hid hr'
  clear hr hr'
  go_enter Tryd.func40, Tryd.ntmps40
  go_wp2
  go_loopw [5] (fun i wr => ∃ k : Nat, k ≤ n ∧ i = .int .i64 k ∧ Below w.heap.size w wr) (fun i _ => n - (intOf i).toNat)
  case atStart => exact ⟨0, Nat.zero_le _, rfl, Below.refl _ _⟩
  case round =>
    obtain ⟨k, hk, rfl, hb⟩ := hrel
    have HBr := Lib.hid hb
    by_cases hlt : k < n
    · obtain ⟨b1, off1, rfl, c0, c1, c2, c3, c4⟩ := (H.out.later hb).five hlt
      obtain ⟨b2, off2, rfl, d0, d1, d2, d3, d4⟩ := (H'.out.later hb).five hlt
      clear hb
      go_wp2
      go_region_held3 (fun W : World => (W.cell? ⟨b1, off1 + k * 5, none⟩ = some (.int .i64 (h k).c) ∧ W.cell? ⟨b1, off1 + k * 5 + 1, none⟩ = some (.string (h k).wh) ∧ W.cell? ⟨b1, off1 + k * 5 + 2, none⟩ = some (.string (h k).wt) ∧ W.cell? ⟨b1, off1 + k * 5 + 3, none⟩ = some (.string (h k).lk) ∧ W.cell? ⟨b1, off1 + k * 5 + 4, none⟩ = some (.string (h k).sd)) ∧ (W.cell? ⟨b2, off2 + k * 5, none⟩ = some (.int .i64 (h k).c) ∧ W.cell? ⟨b2, off2 + k * 5 + 1, none⟩ = some (.string (h k).wh) ∧ W.cell? ⟨b2, off2 + k * 5 + 2, none⟩ = some (.string (h k).wt) ∧ W.cell? ⟨b2, off2 + k * 5 + 3, none⟩ = some (.string (h k).lk) ∧ W.cell? ⟨b2, off2 + k * 5 + 4, none⟩ = some (.string (h k).sd))) (first | exact ⟨⟨c0, c1, c2, c3, c4⟩, d0, d1, d2, d3, d4⟩ | exact ⟨HC.out, HD.out⟩) (first
        | (go_at_call 37; refine (eq_same (h k) _).mono ?_; rintro e w2 ⟨rfl, hb2⟩; have HB2 := Lib.hid (show Below w.heap.size w w2 from by first | exact HBr.out.trans (hb2.mono HBr.out.size) | exact HBr.out.drew.trans (hb2.mono HBr.out.size)); have HC := Lib.hid (And.intro ((hb2.cell (World.block_lt_of_cell? _ _ c0)).trans c0) (And.intro ((hb2.cell (World.block_lt_of_cell? _ _ c1)).trans c1) (And.intro ((hb2.cell (World.block_lt_of_cell? _ _ c2)).trans c2) (And.intro ((hb2.cell (World.block_lt_of_cell? _ _ c3)).trans c3) ((hb2.cell (World.block_lt_of_cell? _ _ c4)).trans c4))))); have HD := Lib.hid (And.intro ((hb2.cell (World.block_lt_of_cell? _ _ d0)).trans d0) (And.intro ((hb2.cell (World.block_lt_of_cell? _ _ d1)).trans d1) (And.intro ((hb2.cell (World.block_lt_of_cell? _ _ d2)).trans d2) (And.intro ((hb2.cell (World.block_lt_of_cell? _ _ d3)).trans d3) ((hb2.cell (World.block_lt_of_cell? _ _ d4)).trans d4))))); clear hb2))
      all_goals go_wp2
      all_goals go_roundw
      all_goals first
        | exact ⟨k + 1, by omega, by go_num, HB2.out⟩
        | (simp [intOf]; omega)
    · obtain rfl : k = n := by omega
      go_wp2
      go_ret
      exact ⟨rfl, HBr.out⟩

end Go.Proofs.YtpfjdlaaakkimaaDoor.FtL
