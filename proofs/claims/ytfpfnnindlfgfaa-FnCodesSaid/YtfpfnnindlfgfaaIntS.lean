/- The laws' own helpers over '[]int': contracts. -/
import Derived.Test.YtfpfnnindlfgfaaProg
import Derived.Test.YtfpfnnindlfgfaaIntE
import Derived.WalkLawsBesides
import Derived.WalkSpells
import Derived.Deep.RegionWith
namespace Go.Proofs.Ytfpfnnindlfgfaa.IntS
open Go.RowKit Lb
set_option linter.unusedSimpArgs false
set_option linter.unusedVariables false

set_option maxHeartbeats 400000 in
theorem sz_no (a : Option Addr) (cap n : Nat) (left : Int) (w : World) (hl : n ≤ maxLen) (h0 : 0 ≤ left) (h1 : left ≤ 1048576) (h : left - n < 0) :
    Calls Try.prog 116 #[.slice a n cap, .int .i64 left] w fun e w' => e = .returned (.int .i64 (-1)) ∧ w' = w := by
  unfold maxLen at hl
  go_enter Try.func116, Try.ntmps116
  go_wp2
  go_ret
  exact ⟨rfl, rfl⟩
set_option maxHeartbeats 400000 in
theorem sz_yes (a : Option Addr) (cap n : Nat) (left : Int) (w : World) (hl : n ≤ maxLen) (h1 : left ≤ 1048576) (h : 0 ≤ left - n) :
    Calls Try.prog 116 #[.slice a n cap, .int .i64 left] w fun e w' => e = .returned (.int .i64 (left - n)) ∧ w' = w := by
  unfold maxLen at hl
  go_enter Try.func116, Try.ntmps116
  go_wp2
  go_ret
  exact ⟨rfl, rfl⟩

/-- The first 'k' numbers are there, behind them zeros. -/
def upTo (zs : List Int) (k : Nat) : List Value := (zs.take k).map (Value.int .i64) ++ List.replicate (zs.length - k) (.int .i64 0)
theorem upTo_zero (zs : List Int) : upTo zs 0 = List.replicate zs.length (.int .i64 0) := by simp [upTo]
theorem upTo_all (zs : List Int) : upTo zs zs.length = zs.map (Value.int .i64) := by simp [upTo]
theorem upTo_length (zs : List Int) (k : Nat) (h : k ≤ zs.length) : (upTo zs k).length = zs.length := by simp [upTo]; omega
theorem upTo_at (zs : List Int) (k : Nat) (h : k < zs.length) : (upTo zs k)[k]? = some (.int .i64 0) := by
  unfold upTo
  have e : ((zs.take k).map (Value.int .i64)).length = k := by simp; omega
  rw [List.getElem?_append_right (by omega), e, Nat.sub_self, List.getElem?_replicate, if_pos (by omega)]
theorem upTo_set (zs : List Int) (k : Nat) (h : k < zs.length) : (upTo zs k).set k (.int .i64 (zAt zs k)) = upTo zs (k + 1) := by
  unfold upTo
  rw [List.set_append_right _ _ (by simp; omega), zAt_take zs k h]
  have e : zs.length - k = (zs.length - (k + 1)) + 1 := by omega
  rw [e, List.replicate_succ]
  simp [Nat.min_eq_left (Nat.le_of_lt h)]

set_option maxHeartbeats 1000000 in
theorem to_any (a : Option Addr) (cap : Nat) (zs : List Int) (w : World) (hr : IRow w a zs) (hl : zs.length ≤ 1048576) :
    Calls Try.prog 117 #[.slice a zs.length cap] w fun e w' => (∃ v, e = .returned v ∧ OwnI w' w.heap.size v zs) ∧ Below w.heap.size w w' := by
  obtain ⟨i0, hi, hz0, hz1, hz2⟩ := info_parts iInfo
  have HU := Lib.hid (upTo_zero zs)
  have HA := Lib.hid (upTo_all zs)
  go_enter Try.func117, Try.ntmps117
  go_wp2_with (at_make; refine wpList_make_full _ rfl _ _ 24 rfl w.heap.size 3 i0 (.int .i64 0) 1 Try.underlying24 hi hz0 hz1 .i64 .i64 _ _ zs.length rfl rfl rfl rfl ?b2 ?b3 (Nat.le_refl _) ?_)
  case b2 => rw [hz2]; omega
  case b3 => unfold maxLen; omega
  intro w1 hown hgr
  have hw1 := Lib.hid (show w1.ownsRow w.heap.size 3 1 (.slice (some ⟨w.heap.size, 0, none⟩) zs.length zs.length) zs.length (upTo zs 0) from by
    rw [HU.out]
    have := hown
    rwa [toList_madeCells_one] at this)
  have hb1 := Lib.hid (show Below w.heap.size w w1 from (Below.refl _ _).grown hgr (Nat.le_refl _) (fun k e => by cases e))
  clear hown hgr
  go_wp2
  go_loopw [4] (fun i wr => ∃ k : Nat, k ≤ zs.length ∧ i = .int .i64 k ∧ wr.ownsRow w.heap.size 3 1 (.slice (some ⟨w.heap.size, 0, none⟩) zs.length zs.length) zs.length (upTo zs k) ∧ Below w.heap.size w wr) (fun i _ => zs.length - (intOf i).toNat)
  case atStart => exact ⟨0, Nat.zero_le _, rfl, hw1.out, hb1.out⟩
  case round =>
    obtain ⟨k, hk, rfl, ho, hb⟩ := hrel
    by_cases hlt : k < zs.length
    · have hr1 := RowAt.below hr hb
      rcases hr1 with hr1 | ⟨b, off, rfl, hc⟩
      · omega
      have c1 : wr.cell? ⟨b, off + k, none⟩ = some (.int .i64 (zAt zs k)) := hc k hlt
      have c2 : wr.cell? ⟨w.heap.size, k, none⟩ = some (.int .i64 0) := (ho.cellAt k (by omega)).trans (upTo_at zs k hlt)
      have f2 : wr.frozen? ⟨w.heap.size, k, none⟩ = false := ho.frozenAt k
      have hs := ho.stored k (.int .i64 (zAt zs k))
      rw [upTo_set zs k hlt] at hs
      have HS := Lib.hid hs.1
      have HB := Lib.hid (hb.setCell (p := ⟨w.heap.size, k, none⟩) (Nat.le_refl _) (.int .i64 (zAt zs k)))
      clear hs hc ho hb
      go_wp2
      go_roundw
      case rel => exact ⟨k + 1, by omega, by go_num, HS.out, HB.out⟩
      case measure => simp [intOf]; omega
    · obtain rfl : k = zs.length := by omega
      rw [HA.out] at ho
      go_wp2
      go_ret
      exact ⟨⟨_, rfl, ho⟩, hb⟩

end Go.Proofs.Ytfpfnnindlfgfaa.IntS
