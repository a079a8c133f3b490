/- The drawing of inputs: a text that is spoilt. -/
import Derived.Test.YtjngnjokbnklfaaDoorCurA
import Derived.RegionTactic
import Derived.Deep.CutRange
import Derived.Deep.DeepCutAuto
import Derived.Deep.LoopGhost
namespace Go.Proofs.YtjngnjokbnklfaaDoor.DrG
open Go.RowKit Lb Bk Cur
set_option linter.unusedSimpArgs false
set_option linter.unusedVariables false

theorem nil_toList {x : ByteArray} (h : x = ⟨#[]⟩) : x.toList = [] := by rw [h, ByteArray.toList_eq]
theorem ne_toList {x : ByteArray} (h : ¬ x = ⟨#[]⟩) : ¬ x.toList = [] := by
  rw [ByteArray.toList_eq]
  intro e
  exact h (by cases x; simpa using e)
theorem ne_size {x : ByteArray} (h : ¬ x = ⟨#[]⟩) : 0 < x.size := by
  rcases Nat.eq_zero_or_pos x.size with e | e
  · exact absurd (by apply ByteArray.ext; exact Array.eq_empty_of_size_eq_zero e) h
  · exact e

set_option maxHeartbeats 2000000 in
theorem spoilt_any (b m : Nat) (t u : ByteArray) (w : World) (hm : m ≤ 1152921504606840000) (ht : t.size ≤ 4000) (hu : 0 < u.size) (hu2 : u.size ≤ 4000) (hok : Ok w b m) :
    Calls Tryd.prog 37 #[.pointer (some ⟨b, 0, none⟩), .string t, .string u] w fun e w' => (∃ s : ByteArray, e = .returned (.string s) ∧ s.size ≤ 8001) ∧ Ok w' b (m + 6) ∧ w.grownBy w' (some b) := by
  have HO := Lib.hid hok
  clear hok
  by_cases h0 : t = ⟨#[]⟩
  · have e1 := nil_toList h0
    have e2 : t.toList.isEmpty = true := by rw [e1]; rfl
    clear h0
    go_enter Tryd.func37, Tryd.ntmps37
    go_wp2
    go_ret
    exact ⟨⟨_, rfl, by rw [ByteArray.size_extract]; omega⟩, HO.out.mono (by omega), gbelow (Below.refl _ _) _⟩
  · have e1 := ne_toList h0
    have e2 : t.toList.isEmpty = false := by
      cases h : t.toList.isEmpty with
      | false => rfl
      | true => exact absurd (List.isEmpty_iff.1 h) e1
    have h1 := ne_size h0
    clear h0
    go_enter Tryd.func37, Tryd.ntmps37
    go_wp2_with fail
    refine (pick_any b m t.size _ (by omega) (by omega) (by omega) HO.out).mono ?_
    rintro e w1 ⟨⟨i, rfl, _, hi'⟩, hok, hg⟩
    have hi : i < t.size := by omega
    have H1 := Lib.hid hok
    have G1 := Lib.hid hg
    clear hok hg hi' HO
    go_wp2_with fail
    refine (pick_any b _ u.size _ (by omega) (by omega) (by omega) H1.out).mono ?_
    rintro e w2 ⟨⟨j, rfl, _, hj'⟩, hok, hg⟩
    have hj : j < u.size := by omega
    have H2 := Lib.hid hok
    have G2 := Lib.hid (gtrans G1.out hg)
    clear hok hg hj'
    obtain ⟨v, hv⟩ : ∃ v, u.extract j u.size = v := ⟨_, rfl⟩
    have hvs : v.size = u.size - j := by rw [← hv, ByteArray.size_extract]; omega
    have hv1 : 1 ≤ v.size := by omega
    go_wp2_with fail
    refine (pick_any b _ 3 _ (by omega) (by omega) (by omega) H2.out).mono ?_
    rintro e w3 ⟨⟨c, rfl, hc', _⟩, hok, hg⟩
    have H3 := Lib.hid hok
    have G3 := Lib.hid (gtrans G2.out hg)
    clear hok hg
    obtain ⟨x, hx⟩ : ∃ x, t.extract 0 i = x := ⟨_, rfl⟩
    obtain ⟨y, hy⟩ : ∃ y, v.extract 0 1 = y := ⟨_, rfl⟩
    obtain ⟨z0, hz0⟩ : ∃ z, t.extract i t.size = z := ⟨_, rfl⟩
    obtain ⟨z1, hz1⟩ : ∃ z, t.extract (i + 1) t.size = z := ⟨_, rfl⟩
    have hxs : x.size ≤ 4000 := by rw [← hx, ByteArray.size_extract]; omega
    have hys : y.size ≤ 1 := by rw [← hy, ByteArray.size_extract]; omega
    have hz0s : z0.size ≤ 4000 := by rw [← hz0, ByteArray.size_extract]; omega
    have hz1s : z1.size ≤ 4000 := by rw [← hz1, ByteArray.size_extract]; omega
    have k1 : (9223372036854775807 < x.size + y.size) = False := by simp only [eq_iff_iff, iff_false]; omega
    have k2 : (9223372036854775807 < x.size + y.size + z0.size) = False := by simp only [eq_iff_iff, iff_false]; omega
    have k3 : (9223372036854775807 < x.size + y.size + z1.size) = False := by simp only [eq_iff_iff, iff_false]; omega
    have k4 : (9223372036854775807 < x.size + z1.size) = False := by simp only [eq_iff_iff, iff_false]; omega
    have hwr : IntKind.i64.wrap ((i : Int) + 1) = (i : Int) + 1 := IntWalk.i64_in _ (by omega)
    rcases (show c = 0 ∨ c = 1 ∨ 1 < c by omega) with rfl | rfl | hc1
    · go_wp2
      go_quiet (fail)
      all_goals go_wp2
      all_goals go_ret
      all_goals exact ⟨⟨_, rfl, by simp only [ByteArray.size_append]; omega⟩, H3.out.below (below_drewN (Below.refl _ _) _), gtrans G3.out (gbelow (below_drewN (Below.refl _ _) _) _)⟩
    · go_wp2
      go_quiet (fail)
      all_goals go_wp2
      all_goals go_ret
      all_goals exact ⟨⟨_, rfl, by simp only [ByteArray.size_append]; omega⟩, H3.out.below (below_drewN (Below.refl _ _) _), gtrans G3.out (gbelow (below_drewN (Below.refl _ _) _) _)⟩
    · have n0 : ¬ (c : Int) = 0 := by omega
      have n1 : ¬ (c : Int) = 1 := by omega
      go_wp2
      go_quiet (fail)
      all_goals go_wp2
      all_goals go_ret
      all_goals exact ⟨⟨_, rfl, by simp only [ByteArray.size_append]; omega⟩, H3.out.below (below_drewN (Below.refl _ _) _), gtrans G3.out (gbelow (below_drewN (Below.refl _ _) _) _)⟩

def withU : ByteArray := ⟨#[48, 32, 101, 115, 112, 49]⟩
end Go.Proofs.YtjngnjokbnklfaaDoor.DrG
