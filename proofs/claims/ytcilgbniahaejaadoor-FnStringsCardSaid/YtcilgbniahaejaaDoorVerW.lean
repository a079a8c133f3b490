/- VerifyChecksum: the walks of both texts. -/
import Derived.Test.YtcilgbniahaejaaDoorSealW
namespace Go.Proofs.YtcilgbniahaejaaDoor.VerW
open Go.RowKit Lb Fmt SealM SealW L1S
set_option linter.unusedSimpArgs false
set_option linter.unusedVariables false

theorem ver_big {s : ByteArray} (h : 4000 < s.size) : verR s = none := by unfold verR; rw [if_neg (by omega)]
theorem ver_neq {s : ByteArray} (h : sealB (before s) ≠ s) : verR s = none := by unfold verR; rw [if_neg (fun e => h e.2)]
theorem ver_eq {s : ByteArray} (h1 : s.size ≤ 4000) (h : sealB (before s) = s) : verR s = some (before s) := by unfold verR; rw [if_pos ⟨h1, h⟩]

set_option maxHeartbeats 1000000 in
theorem specVer_any (s : ByteArray) (w : World) (hs : s.size ≤ 1048576) :
    Calls Tryd.prog 20 #[.string s] w fun e w' => OptPost (verR s) e ∧ Below w.heap.size w w' := by
  by_cases h1 : 4000 < s.size
  · have hr := Lib.hid (ver_big h1)
    go_enter Tryd.func20, Tryd.ntmps20
    go_wp2_with fail
    go_ret2
    exact ⟨opt_none hr.out, Below.refl _ _⟩
  · have c1 := Lib.hid (fun w => l1Split_any s 35 w hs)
    have hle := before_le s
    have c2 := Lib.hid (fun w => seal_any (before s) w (by omega))
    have hpl := (parts_length s 35).2
    go_enter Tryd.func20, Tryd.ntmps20
    go_wp2_with fail
    refine (c1.out _).mono ?_
    rintro e w1 ⟨v, rfl, hown, hb⟩
    obtain ⟨g, cap, rfl⟩ : ∃ g cap, v = .slice (some ⟨g, 0, none⟩) (parts s 35).length cap := by
      rcases hown.2 with ⟨_, h0⟩ | ⟨g, cap, cur, rfl, _⟩
      · omega
      · exact ⟨g, cap, rfl⟩
    have hc : w1.cell? ⟨g, 0, none⟩ = some (.string (before s)) := by
      rw [hown.cellAt 0 (by omega)]
      unfold before
      simp [sAt, hpl, List.getD]
    have HB := Lib.hid hb
    have HP : 0 < (parts s 35).length := hpl
    clear hown hb
    go_wp2_with fail
    refine (c2.out _).mono ?_
    rintro e w2 ⟨rfl, q, rfl⟩
    have HB2 := Lib.hid (HB.out.trans ((Still.below ⟨q, rfl⟩ _).mono (Nat.le_refl _)))
    by_cases hf : sealB (before s) = s
    · have hr := Lib.hid (ver_eq (by omega) hf)
      have hbe : (!(sealB (before s)).toList == s.toList) = false := by rw [hf]; simp
      clear hf
      go_wp2_with fail
      go_ret2
      exact ⟨opt_some hr.out, HB2.out⟩
    · have hr := Lib.hid (ver_neq hf)
      have hbe := str_neq hf
      clear hf
      go_wp2_with fail
      go_ret2
      exact ⟨opt_none hr.out, HB2.out⟩

/-- Some number stands in the library's variable. -/
def Mx (w : World) : Prop := ∃ m, w.cell? ⟨2, 0, none⟩ = some (.int .i64 m)

set_option maxHeartbeats 1000000 in
theorem implVer_any (s : ByteArray) (w : World) (ht : ∀ q, Tab (w.drewN q)) (hm : Mx w) (hs : s.size ≤ 1048576) :
    Calls Tryd.prog 18 #[.string s] w fun e w' => OptPost (verR s) e ∧ Below w.heap.size w w' := by
  obtain ⟨m, hm⟩ := hm
  have c1 := Lib.hid (Tryd.strings_Cut s ⟨#[35]⟩ m w (by omega) hm)
  by_cases h1 : hasB s 35 = true
  · obtain ⟨e1, e2⟩ := cut_yes h1
    have E1 := Lib.hid e1
    have E2 := Lib.hid e2
    have hle := before_le s
    have c2 := Lib.hid (fun q => implApp_any (before s) (w.drewN q) (ht q) (by omega))
    have hva := Lib.hid (ver_app s)
    clear h1 e1 e2 ht hm
    go_enter Tryd.func18, Tryd.ntmps18
    go_wp2_with fail
    refine c1.out.mono ?_
    rintro e w1 ⟨he, q, rfl⟩
    rw [E1.out, E2.out] at he
    subst he
    cases happ : appR (before s) with
    | none =>
      have hr := Lib.hid (show verR s = none from by rw [hva.out, happ])
      have c3 := Lib.hid (c2.out q)
      rw [happ] at c3
      clear happ
      go_wp2_with fail
      refine c3.out.mono ?_
      rintro e w2 ⟨he, hb⟩
      unfold OptPost at he
      subst he
      go_wp2_with fail
      go_ret2
      exact ⟨opt_none hr.out, ((Still.below ⟨q, rfl⟩ _).trans hb)⟩
    | some y =>
      have c3 := Lib.hid (c2.out q)
      rw [happ] at c3
      by_cases hf : y = s
      · have hr := Lib.hid (show verR s = some (before s) from by rw [hva.out, happ]; simp [hf])
        have hbe : (!y.toList == s.toList) = false := by rw [hf]; simp
        clear hf happ
        go_wp2_with fail
        refine c3.out.mono ?_
        rintro e w2 ⟨he, hb⟩
        unfold OptPost at he
        subst he
        go_wp2_with fail
        go_ret2
        exact ⟨opt_some hr.out, ((Still.below ⟨q, rfl⟩ _).trans hb)⟩
      · have hr := Lib.hid (show verR s = none from by rw [hva.out, happ]; simp [hf])
        have hbe := str_neq hf
        clear hf happ
        go_wp2_with fail
        refine c3.out.mono ?_
        rintro e w2 ⟨he, hb⟩
        unfold OptPost at he
        subst he
        go_wp2_with fail
        go_ret2
        exact ⟨opt_none hr.out, ((Still.below ⟨q, rfl⟩ _).trans hb)⟩
  · have h1' : hasB s 35 = false := by simpa using h1
    have E2 := Lib.hid (cut_no h1')
    have hr := Lib.hid (ver_none h1')
    clear h1 h1' ht hm
    go_enter Tryd.func18, Tryd.ntmps18
    go_wp2_with fail
    refine c1.out.mono ?_
    rintro e w1 ⟨he, q, rfl⟩
    rw [E2.out] at he
    subst he
    go_wp2_with fail
    go_ret2
    exact ⟨opt_none hr.out, Still.below ⟨q, rfl⟩ _⟩

end Go.Proofs.YtcilgbniahaejaaDoor.VerW
