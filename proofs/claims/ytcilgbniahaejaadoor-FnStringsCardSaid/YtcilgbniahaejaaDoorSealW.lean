/- AppendChecksum: the walks of both texts. -/
import Derived.Test.YtcilgbniahaejaaDoorSealM
import Derived.Test.YtcilgbniahaejaaDoorCkImpl
import Derived.Test.YtcilgbniahaejaaDoorStands
import Derived.Test.YtcilgbniahaejaaDoorL1S
namespace Go.Proofs.YtcilgbniahaejaaDoor.SealW
open Go.RowKit Lb Fmt SealM Stn
set_option linter.unusedSimpArgs false
set_option linter.unusedVariables false

set_option maxHeartbeats 400000 in
theorem seal_any (t : ByteArray) (w : World) (hs : t.size ≤ 1048576) :
    Calls Tryd.prog 34 #[.string t] w fun e w' => e = .returned (.string (sealB t)) ∧ Still w w' := by
  have c1 := Lib.hid (fun w => Ck.l1Sum_any t w (by unfold maxLen; omega))
  have hb := Ck.sum_bd t.data.toList
  have c2 := Lib.hid (fun w => num_any (Ck.sum t.data.toList) (by omega) (by omega) w)
  have hz := fmt_size t
  go_enter Tryd.func34, Tryd.ntmps34
  go_wp2_with fail
  refine (c1.out _).mono ?_
  rintro e w1 ⟨rfl, rfl⟩
  go_wp2_with fail
  refine (c2.out _).mono ?_
  rintro e w1 ⟨rfl, q, rfl⟩
  go_wp2_with fail
  go_ret
  exact ⟨rfl, q, rfl⟩

/-- A text or none. -/
def OptPost (r : Option ByteArray) (e : Ending) : Prop := e = .returned (.tuple #[.string (r.getD ByteArray.empty), .bool r.isSome])

theorem app_none {t : ByteArray} (h : ¬ (t.size ≤ 4000 ∧ hasB t 35 = false ∧ (sealB t).size ≤ 4000)) : appR t = none := by unfold appR; rw [if_neg h]
theorem app_some {t : ByteArray} (h : t.size ≤ 4000 ∧ hasB t 35 = false ∧ (sealB t).size ≤ 4000) : appR t = some (sealB t) := by unfold appR; rw [if_pos h]
theorem opt_none {r : Option ByteArray} (h : r = none) : OptPost r (.returned (.tuple #[.string ByteArray.empty, .bool false])) := by subst h; rfl
theorem opt_some {r : Option ByteArray} {s : ByteArray} (h : r = some s) : OptPost r (.returned (.tuple #[.string s, .bool true])) := by subst h; rfl

set_option maxHeartbeats 1000000 in
theorem specApp_any (t : ByteArray) (w : World) (hs : t.size ≤ 1048576) :
    Calls Tryd.prog 17 #[.string t] w fun e w' => OptPost (appR t) e ∧ Still w w' := by
  have c1 := Lib.hid (fun w => stands_any t 35 w (by unfold maxLen; omega))
  have c2 := Lib.hid (fun w => seal_any t w hs)
  by_cases h1 : 4000 < t.size
  · have hr := Lib.hid (app_none (t := t) (by omega))
    go_enter Tryd.func17, Tryd.ntmps17
    go_wp2_with fail
    go_ret2
    exact ⟨opt_none hr.out, Still.refl _⟩
  · by_cases h2 : hasB t 35 = true
    · have hr := Lib.hid (app_none (t := t) (by rw [h2]; simp))
      have c1' := Lib.hid (fun w => (h2 ▸ c1.out w : Calls Tryd.prog 33 #[.string t, .int .u8 (35 : UInt8).toNat] w fun e w' => e = .returned (.bool true) ∧ w' = w))
      clear h2 c1
      go_enter Tryd.func17, Tryd.ntmps17
      go_wp2_with fail
      refine (c1'.out _).mono ?_
      rintro e w1 ⟨rfl, rfl⟩
      go_wp2_with fail
      go_ret2
      exact ⟨opt_none hr.out, Still.refl _⟩
    · have h2' : hasB t 35 = false := by simpa using h2
      have c1' := Lib.hid (fun w => (h2' ▸ c1.out w : Calls Tryd.prog 33 #[.string t, .int .u8 (35 : UInt8).toNat] w fun e w' => e = .returned (.bool false) ∧ w' = w))
      have hz := seal_size t
      have hzf := fmt_size t
      by_cases h3 : 4000 < (sealB t).size
      · have hr := Lib.hid (app_none (t := t) (by omega))
        have hzz : (sealB t).size ≤ 5000 := by omega
        clear h2 h2' c1 hz
        go_enter Tryd.func17, Tryd.ntmps17
        go_wp2_with fail
        refine (c1'.out _).mono ?_
        rintro e w1 ⟨rfl, rfl⟩
        go_wp2_with fail
        refine (c2.out _).mono ?_
        rintro e w1 ⟨rfl, q, rfl⟩
        go_wp2_with fail
        go_ret2
        exact ⟨opt_none hr.out, q, rfl⟩
      · have hr := Lib.hid (app_some (t := t) ⟨by omega, h2', by omega⟩)
        clear h2 h2' c1 hz
        go_enter Tryd.func17, Tryd.ntmps17
        go_wp2_with fail
        refine (c1'.out _).mono ?_
        rintro e w1 ⟨rfl, rfl⟩
        go_wp2_with fail
        refine (c2.out _).mono ?_
        rintro e w1 ⟨rfl, q, rfl⟩
        go_wp2_with fail
        refine (c2.out _).mono ?_
        rintro e w1 ⟨rfl, q', rfl⟩
        go_wp2_with fail
        go_ret2
        exact ⟨opt_some hr.out, q + q', by simp⟩

set_option maxHeartbeats 1000000 in
theorem implApp_any (t : ByteArray) (w : World) (ht : Tab w) (hs : t.size ≤ 1048576) :
    Calls Tryd.prog 16 #[.string t] w fun e w' => OptPost (appR t) e ∧ Below w.heap.size w w' := by
  have c1 := Lib.hid (fun w => Ck.implChecksum_any t w (by unfold maxLen; omega))
  have c2 := Lib.hid (fun w => Tryd.strings_Contains_one t 35 w)
  have hb := Ck.sum_bd t.data.toList
  have c3 := Lib.hid (implFmt_ok (Ck.sum t.data.toList) (by omega) (by omega) w ht)
  by_cases h1 : 4000 < t.size
  · have hr := Lib.hid (app_none (t := t) (by omega))
    have c1' := Lib.hid (fun w => (by have := c1.out w; rw [if_neg (by omega)] at this; exact this : Calls Tryd.prog 31 #[.string t] w fun e w' => e = .returned (.tuple #[.int .i64 0, .bool false]) ∧ w' = w))
    go_enter Tryd.func16, Tryd.ntmps16
    go_wp2_with fail
    refine (c1'.out _).mono ?_
    rintro e w1 ⟨rfl, rfl⟩
    go_wp2_with fail
    go_ret2
    exact ⟨opt_none hr.out, Below.refl _ _⟩
  · have c1' := Lib.hid (fun w => (by have := c1.out w; rw [if_pos (by omega)] at this; exact this : Calls Tryd.prog 31 #[.string t] w fun e w' => e = .returned (.tuple #[.int .i64 (Ck.sum t.data.toList), .bool true]) ∧ w' = w))
    have hbi := byte_index t
    by_cases h2 : hasB t 35 = true
    · have hr := Lib.hid (app_none (t := t) (by rw [h2]; simp))
      have c2' := Lib.hid (fun w => (by have := c2.out w; rw [hbi, h2] at this; exact this : Calls Tryd.prog 32 #[.string t, .string ⟨#[35]⟩] w fun e w' => e = .returned (.bool true) ∧ w' = w))
      clear h2 c1 c2 hbi
      go_enter Tryd.func16, Tryd.ntmps16
      go_wp2_with fail
      refine (c1'.out _).mono ?_
      rintro e w1 ⟨rfl, rfl⟩
      go_wp2_with fail
      refine (c2'.out _).mono ?_
      rintro e w1 ⟨rfl, rfl⟩
      go_wp2_with fail
      go_ret2
      exact ⟨opt_none hr.out, Below.refl _ _⟩
    · have h2' : hasB t 35 = false := by simpa using h2
      have c2' := Lib.hid (fun w => (by have := c2.out w; rw [hbi, h2'] at this; exact this : Calls Tryd.prog 32 #[.string t, .string ⟨#[35]⟩] w fun e w' => e = .returned (.bool false) ∧ w' = w))
      have hz := seal_size t
      have hzf := fmt_size t
      by_cases h3 : 4000 < (sealB t).size
      · have hr := Lib.hid (app_none (t := t) (by omega))
        have hlen : 4000 < t.size + 1 + (fmtB (Ck.sum t.data.toList)).size := by omega
        clear h2 h2' c1 c2 hbi hz h3
        go_enter Tryd.func16, Tryd.ntmps16
        go_wp2_with fail
        refine (c1'.out _).mono ?_
        rintro e w1 ⟨rfl, rfl⟩
        go_wp2_with fail
        refine (c2'.out _).mono ?_
        rintro e w1 ⟨rfl, rfl⟩
        go_wp2_with fail
        refine c3.out.mono ?_
        rintro e w1 ⟨rfl, hbw⟩
        go_wp2_with fail
        go_ret2
        exact ⟨opt_none hr.out, hbw⟩
      · have hr := Lib.hid (app_some (t := t) ⟨by omega, h2', by omega⟩)
        have hlen : ¬ 4000 < t.size + 1 + (fmtB (Ck.sum t.data.toList)).size := by omega
        clear h2 h2' c1 c2 hbi hz h3
        go_enter Tryd.func16, Tryd.ntmps16
        go_wp2_with fail
        refine (c1'.out _).mono ?_
        rintro e w1 ⟨rfl, rfl⟩
        go_wp2_with fail
        refine (c2'.out _).mono ?_
        rintro e w1 ⟨rfl, rfl⟩
        go_wp2_with fail
        refine c3.out.mono ?_
        rintro e w1 ⟨rfl, hbw⟩
        go_wp2_with fail
        go_ret2
        exact ⟨opt_some hr.out, hbw⟩

end Go.Proofs.YtcilgbniahaejaaDoor.SealW
