/- 'AppendChecksum' and 'VerifyChecksum' answer as their models, at every string: the walks of the laws. -/
import Derived.Test.YtcilgbniahaejaaDoorVerW
namespace Go.Proofs.YtcilgbniahaejaaDoor.SealL
open Go.RowKit Lb Fmt SealM SealW VerW
set_option linter.unusedSimpArgs false
set_option linter.unusedVariables false

set_option maxHeartbeats 400000 in
theorem append_any (w : World) (ht : Tab w) (s : ByteArray) (hs : s.size ≤ maxLen) :
    Calls Tryd.prog 6 #[.string s] w fun e w' => e = .returned (.bool true) ∧ Below w.heap.size w w' := by
  unfold maxLen at hs
  by_cases h : 1048576 < s.size
  · go_enter Tryd.func6, Tryd.ntmps6
    go_wp2
    go_ret
    exact ⟨rfl, Below.refl _ _⟩
  · have c1 := Lib.hid (specApp_any s w (by omega))
    have c2 := Lib.hid (fun q => implApp_any s (w.drewN q) ht (by omega))
    clear ht
    go_enter Tryd.func6, Tryd.ntmps6
    go_wp2_with fail
    refine c1.out.mono ?_
    rintro e w1 ⟨he, q, rfl⟩
    unfold OptPost at he
    subst he
    go_wp2_with fail
    refine (c2.out q).mono ?_
    rintro e w1 ⟨he, hb⟩
    unfold OptPost at he
    subst he
    go_wp2
    go_ret
    exact ⟨rfl, ((Still.below ⟨q, rfl⟩ _).trans hb)⟩

set_option maxHeartbeats 400000 in
theorem verify_any (w : World) (hg : (∀ w', Below w.heap.size w w' → Tab w') ∧ Mx w) (s : ByteArray) (hs : s.size ≤ maxLen) :
    Calls Tryd.prog 7 #[.string s] w fun e w' => e = .returned (.bool true) ∧ Below w.heap.size w w' := by
  unfold maxLen at hs
  by_cases h : 1048576 < s.size
  · go_enter Tryd.func7, Tryd.ntmps7
    go_wp2
    go_ret
    exact ⟨rfl, Below.refl _ _⟩
  · have c1 := Lib.hid (specVer_any s w (by omega))
    obtain ⟨ht, m, hm⟩ := hg
    have hlt : 2 < w.heap.size := World.block_lt_of_cell? w _ hm
    have c2 := Lib.hid (fun w1 (hb : Below w.heap.size w w1) => implVer_any s w1 (fun q => ht _ (hb.trans ((Still.below ⟨q, rfl⟩ _)))) ⟨m, (hb.cell hlt).trans hm⟩ (by omega))
    clear ht hm hlt
    go_enter Tryd.func7, Tryd.ntmps7
    go_wp2_with fail
    refine c1.out.mono ?_
    rintro e w1 ⟨he, hb⟩
    have HB := Lib.hid hb
    clear hb
    unfold OptPost at he
    subst he
    go_wp2_with fail
    refine (c2.out w1 HB.out).mono ?_
    rintro e w2 ⟨he, hb2⟩
    have HB2 := Lib.hid (HB.out.trans (hb2.mono HB.out.size))
    clear hb2
    unfold OptPost at he
    subst he
    go_wp2
    go_ret
    exact ⟨rfl, HB2.out⟩

end Go.Proofs.YtcilgbniahaejaaDoor.SealL
