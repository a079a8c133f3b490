/- The model's families: contracts. -/
import Derived.Test.YtpfjdlaaakkimaaDoorWord
import Derived.OwnWalk
import Derived.Maps.AppendAt
namespace Go.Proofs.YtpfjdlaaakkimaaDoor.SpF
open Go.RowKit Lb Bk Word
set_option linter.unusedSimpArgs false
set_option linter.unusedVariables false

theorem sInfo : (Tryd.prog.info? 9).map (fun i => (i.zero, i.size, i.bytes)) = some (some (.string ⟨#[]⟩), 1, 16) := by kernel_rfl

def wsl (B i : Nat) : Value := .slice (some ⟨B + i, 0, none⟩) (famW i).length (famW i).length
structure WAt (w : World) (B : Nat) : Prop where
  W : ∀ i, i < 5 → StrB w (B + i) (famW i)
  T : Blk w (B + 5) 48 #[wsl B 0, wsl B 1, wsl B 2, wsl B 3, wsl B 4]
theorem WAt.cell {w : World} {B : Nat} (h : WAt w B) (i : Nat) (hi : i < 5) : w.cell? ⟨B + 5, i, none⟩ = some (.slice (some ⟨B + i, 0, none⟩) (famW i).length (famW i).length) := by
  obtain rfl | rfl | rfl | rfl | rfl : i = 0 ∨ i = 1 ∨ i = 2 ∨ i = 3 ∨ i = 4 := by omega
  all_goals exact h.T.cell _ rfl

set_option maxHeartbeats 2000000 in
theorem whats_any (w : World) : Calls Tryd.prog 81 #[] w fun e w' => e = .returned (.slice (some ⟨w.heap.size + 5, 0, none⟩) 5 5) ∧ WAt w' w.heap.size ∧ Below w.heap.size w w' := by
  go_enter Tryd.func81, Tryd.ntmps81
  go_wp2
  go_ret
  refine ⟨rfl, ⟨fun i hi => ?_, ?_⟩, ?_⟩
  · obtain rfl | rfl | rfl | rfl | rfl : i = 0 ∨ i = 1 ∨ i = 2 ∨ i = 3 ∨ i = 4 := by omega
    · iterate 5 (refine Blk.alloc ?_ _)
      exact Blk.at_ rfl
    · iterate 4 (refine Blk.alloc ?_ _)
      exact Blk.at_ (by simp only [World.size_alloc])
    · iterate 3 (refine Blk.alloc ?_ _)
      exact Blk.at_ (by simp only [World.size_alloc])
    · iterate 2 (refine Blk.alloc ?_ _)
      exact Blk.at_ (by simp only [World.size_alloc])
    · iterate 1 (refine Blk.alloc ?_ _)
      exact Blk.at_ (by simp only [World.size_alloc])
  · exact Blk.at_ (by simp only [World.size_alloc])
  · iterate 6 (refine Below.alloc ?_ (by simp <;> omega) _)
    exact Below.refl _ _

set_option maxHeartbeats 1000000 in
theorem fam_any (x : ByteArray) (w : World) : Calls Tryd.prog 60 #[.string x] w fun e w' => e = .returned (.int .i64 (famZ x)) ∧ Below w.heap.size w w' := by
  go_enter Tryd.func60, Tryd.ntmps60
  go_wp2_with fail
  refine (whats_any _).mono ?_
  rintro e w1 ⟨rfl, ht, hb⟩
  have HT := Lib.hid ht
  have HB := Lib.hid hb
  clear ht hb
  go_wp2
  go_loop [4] (fun i => ∃ k : Nat, k ≤ 5 ∧ i = .int .i64 k ∧ ∀ j, j < k → x ∉ famW j) (fun i => 5 - (intOf i).toNat)
  case atStart => exact ⟨0, Nat.zero_le _, rfl, fun j h => by omega⟩
  case round =>
    obtain ⟨k, hk, rfl, hno⟩ := hrel
    by_cases hlt : k < 5
    · have c := HT.out.cell k hlt
      by_cases hin : x ∈ famW k
      · have HH := Lib.hid (show famZ x = k from by
          have e := fam_first hlt hin hno
          rw [famZ_yes (by omega), e])
        have hz : decide (0 ≤ idxZ (famW k) x) = true := decide_eq_true ((idxZ_iff _ _).2 hin)
        clear hno hin
        go_wp2_with fail
        refine (at_any _ _ (famW k) x _ (HT.out.W k hlt) (by have := famW_len k; omega)).mono ?_
        rintro e w2 ⟨rfl, rfl⟩
        go_wp2
        go_ret
        exact ⟨ret_int HH.out.symm, HB.out⟩
      · have HN := Lib.hid (all_succ (p := fun j => x ∉ famW j) hno hin)
        have hz : decide (0 ≤ idxZ (famW k) x) = false := decide_eq_false (fun h => hin ((idxZ_iff _ _).1 h))
        clear hno hin
        go_wp2_with fail
        refine (at_any _ _ (famW k) x _ (HT.out.W k hlt) (by have := famW_len k; omega)).mono ?_
        rintro e w2 ⟨rfl, rfl⟩
        go_wp2
        go_round
        case rel => exact ⟨k + 1, by omega, by go_num, HN.out⟩
        case measure => simp [intOf]; omega
    · obtain rfl : k = 5 := by omega
      have HH := Lib.hid (show famZ x = -1 from famZ_no (by rw [fam_none hno]; decide))
      clear hno
      go_wp2
      go_ret
      exact ⟨ret_int HH.out.symm, HB.out⟩

/-- What the sides of a family are in memory. -/
def SPost (k : Nat) (w : World) (e : Ending) (w' : World) : Prop := ∃ v, e = .returned v ∧ w'.ownsRow w.heap.size 9 1 v (famS k).length ((famS k).map Value.string) ∧ Below w.heap.size w w'

theorem news_cell {w : World} {t : TypeId} {g : Nat} (xs : List Value) (e : g = w.heap.size) (j : Nat) (u : Value) (h : xs[j]? = some u) : (w.alloc (.cells xs.toArray t)).cell? ((⟨g, 0, none⟩ : Addr).add j) = some u := by
  subst e
  rw [add_of_spot rfl, Nat.zero_add]
  exact Blk.cell (Blk.new w t xs.toArray) j (by simpa using h)

set_option maxHeartbeats 2000000 in
theorem sides_any (k : Nat) (hk : k < 5) (w : World) : Calls Tryd.prog 74 #[.int .i64 k] w (SPost k w) := by
  obtain ⟨t0, hi, hz0, hz1, hz2⟩ := info_parts sInfo
  have HS := Lib.hid (show StrB _ _ dirs from Blk.new w 9 (dirs.map Value.string).toArray)
  have HB := Lib.hid ((Below.refl w.heap.size w).alloc (Nat.le_refl _) (.cells (dirs.map Value.string).toArray 9))
  have hown := HS.out.own (base := w.heap.size) (Nat.le_refl _) (by decide)
  obtain rfl | rfl | rfl | rfl | rfl : k = 0 ∨ k = 1 ∨ k = 2 ∨ k = 3 ∨ k = 4 := by omega
  · go_enter Tryd.func74, Tryd.ntmps74
    go_wp2_with (at_builtin; go_loud (refine wpList_append_own _ rfl (.tmp 8) (.tmp 9) 48 rfl w.heap.size 9 t0 (.string ⟨#[]⟩) 1 16 Tryd.underlying48 hi hz0 hz1 hz2 rfl (by decide) _ _ _ rfl (hown.alloc _) ⟨w.heap.size + 1, 0, none⟩ 2 2 [.string ⟨#[116, 111, 112]⟩, .string ⟨#[102, 111, 111, 116]⟩] rfl rfl (news_cell [.string ⟨#[116, 111, 112]⟩, .string ⟨#[102, 111, 111, 116]⟩] (by simp)) (by simp [Value.oneCell']) (by decide) (by decide) (by simp; omega) ?_; intro v' w3 hown3 hgrow _))
    have HO := Lib.hid hown3
    have HG := Lib.hid ((HB.out.alloc HB.out.size _).grown hgrow (by simp; omega) (fun q e => (hown.lt q e).1))
    clear hown3 hgrow
    go_wp2
    go_ret
    exact ⟨_, rfl, HO.out, HG.out⟩
  · go_enter Tryd.func74, Tryd.ntmps74
    go_wp2_with (at_builtin; go_loud (refine wpList_append_own _ rfl (.tmp 13) (.tmp 14) 48 rfl w.heap.size 9 t0 (.string ⟨#[]⟩) 1 16 Tryd.underlying48 hi hz0 hz1 hz2 rfl (by decide) _ _ _ rfl (hown.alloc _) ⟨w.heap.size + 1, 0, none⟩ 1 1 [.string ⟨#[102, 111, 111, 116]⟩] rfl rfl (news_cell [.string ⟨#[102, 111, 111, 116]⟩] (by simp)) (by simp [Value.oneCell']) (by decide) (by decide) (by simp; omega) ?_; intro v' w3 hown3 hgrow _))
    have HO := Lib.hid hown3
    have HG := Lib.hid ((HB.out.alloc HB.out.size _).grown hgrow (by simp; omega) (fun q e => (hown.lt q e).1))
    clear hown3 hgrow
    go_wp2
    go_ret
    exact ⟨_, rfl, HO.out, HG.out⟩
  · go_enter Tryd.func74, Tryd.ntmps74
    go_wp2_with (at_builtin; go_loud (refine wpList_append_own _ rfl (.tmp 18) (.tmp 19) 48 rfl w.heap.size 9 t0 (.string ⟨#[]⟩) 1 16 Tryd.underlying48 hi hz0 hz1 hz2 rfl (by decide) _ _ _ rfl (hown.alloc _) ⟨w.heap.size + 1, 0, none⟩ 3 3 [.string ⟨#[116, 111, 112]⟩, .string ⟨#[102, 111, 111, 116]⟩, .string ⟨#[98, 101, 116, 119, 101, 101, 110]⟩] rfl rfl (news_cell [.string ⟨#[116, 111, 112]⟩, .string ⟨#[102, 111, 111, 116]⟩, .string ⟨#[98, 101, 116, 119, 101, 101, 110]⟩] (by simp)) (by simp [Value.oneCell']) (by decide) (by decide) (by simp; omega) ?_; intro v' w3 hown3 hgrow _))
    have HO := Lib.hid hown3
    have HG := Lib.hid ((HB.out.alloc HB.out.size _).grown hgrow (by simp; omega) (fun q e => (hown.lt q e).1))
    clear hown3 hgrow
    go_wp2
    go_ret
    exact ⟨_, rfl, HO.out, HG.out⟩
  all_goals
    go_enter Tryd.func74, Tryd.ntmps74
    go_wp2
    go_ret
    exact ⟨_, rfl, hown, HB.out⟩

end Go.Proofs.YtpfjdlaaakkimaaDoor.SpF
