/- ParseInt: the walk of the model's text. -/
import Derived.Test.YtnenaponiahalaaDoorNumM
import Derived.Test.YtnenaponiahalaaDoorIn
import Derived.Lib.IndexBytes
namespace Go.Proofs.YtnenaponiahalaaDoor.Rd
open Go.RowKit Lb Fmt NumM In Go.Lib
set_option linter.unusedSimpArgs false
set_option linter.unusedVariables false

/-- What ParseInt answers. -/
def RdPost (s : ByteArray) (e : Ending) : Prop := e = .returned (.tuple #[.int .i64 ((val s).getD 0), .bool (val s).isSome])

theorem len_list (t : ByteArray) : t.data.toList.length = t.size := Array.length_toList
theorem rd_none {s : ByteArray} (h : val s = none) : RdPost s (.returned (.tuple #[.int .i64 0, .bool false])) := by unfold RdPost; rw [h]; rfl
theorem rd_some {s : ByteArray} {n : Int} (h : val s = some n) : RdPost s (.returned (.tuple #[.int .i64 n, .bool true])) := by unfold RdPost; rw [h]; rfl

theorem digitVal_yes {b : UInt8} (h1 : 48 ≤ (b.toNat : Int)) (h2 : (b.toNat : Int) ≤ 57) : digitVal b = some (b.toNat - 48) := by
  unfold digitVal; rw [if_pos (by omega)]
theorem digitVal_no {b : UInt8} (h : ¬ (48 ≤ (b.toNat : Int) ∧ (b.toNat : Int) ≤ 57)) : digitVal b = none := by
  unfold digitVal; rw [if_neg (by omega)]
theorem decFrom_bad {l : List UInt8} {k : Nat} {b : UInt8} (hb : l[k]? = some b) (h : digitVal b = none) : decFrom 0 l = none := by
  cases hd : decFrom 0 l with
  | none => rfl
  | some n =>
    obtain ⟨d, e⟩ := digit_of_decFrom l 0 n hd k b hb
    rw [h] at e; cases e

theorem val_len {s : ByteArray} {l : List UInt8} (hm : mag s.data.toList = l) (h : ¬ (1 ≤ l.length ∧ l.length ≤ 6)) : val s = none := by
  unfold val; rw [hm, if_neg h]
theorem val_bad {s : ByteArray} {l : List UInt8} (hm : mag s.data.toList = l) (h : decFrom 0 l = none) : val s = none := by
  unfold val; rw [hm]; split
  · rw [h]
  · rfl
theorem val_neq {s : ByteArray} {l : List UInt8} {m : Nat} (hm : mag s.data.toList = l) (h : decFrom 0 l = some m) (hf : fmtB (sgn s.data.toList m) ≠ s) : val s = none := by
  unfold val; rw [hm]; split
  · rw [h]; simp only; rw [if_neg hf]
  · rfl
theorem val_eq {s : ByteArray} {l : List UInt8} {m : Nat} (hm : mag s.data.toList = l) (hl : 1 ≤ l.length ∧ l.length ≤ 6) (h : decFrom 0 l = some m) (hf : fmtB (sgn s.data.toList m) = s) : val s = some (sgn s.data.toList m) := by
  unfold val; rw [hm, if_pos hl, h]; simp only; rw [if_pos hf]
theorem byte_getElem? (t : ByteArray) (k : Nat) (h : k < t.size) : t.data.toList[k]? = some t[k] := by
  rw [List.getElem?_eq_getElem (by simpa using h)]; rfl
theorem take_one (t : ByteArray) (k m : Nat) (h : k < t.size) (hd : decFrom 0 (t.data.toList.take k) = some m) (h1 : 48 ≤ (t[k].toNat : Int)) (h2 : (t[k].toNat : Int) ≤ 57) :
    decFrom 0 (t.data.toList.take (k + 1)) = some (m * 10 + (t[k].toNat - 48)) :=
  decFrom_take _ k 0 m t[k] _ hd (byte_getElem? t k h) (digitVal_yes h1 h2)
theorem dec_small {l : List UInt8} {k m : Nat} (hk : k ≤ 6) (h : decFrom 0 (l.take k) = some m) : m ≤ 999999 := decFrom_bound h (by simp; omega)

set_option maxHeartbeats 1000000 in
theorem read_one (s : ByteArray) (w : World) (hs : s.size ≤ 1048576) (hneg : negB s.data.toList = false) (h0 : s.size ≤ 1) :
    Calls Tryd.prog 18 #[.string s] w fun e w' => RdPost s e ∧ Still w w' := by
  have hm : mag s.data.toList = s.data.toList := by unfold mag; rw [if_neg (by simp [hneg])]
  have HS := Lib.hid (fun m : Nat => (show sgn s.data.toList m = (m : Int) from by unfold sgn; rw [if_neg (by simp [hneg])]))
  clear hneg
  by_cases hl : 1 ≤ s.size ∧ s.size ≤ 6
  · -- the length fits
    have hl' : 1 ≤ s.data.toList.length ∧ s.data.toList.length ≤ 6 := by
      have e : s.data.toList.length = s.size := len_list _
      omega
    have HL := Lib.hid hl'
    have HM := Lib.hid hm
    clear hl' hm
    go_enter Tryd.func18, Tryd.ntmps18
    go_wp2_with (go_at_call 23; refine (in_yes _ _ _ _ (by omega) (by omega)).mono ?_; rintro e w' ⟨rfl, rfl⟩)
    go_loop [5, 6] (fun n i => ∃ k m : Nat, k ≤ s.size ∧ i = .int .i64 k ∧ n = .int .i64 m ∧ decFrom 0 (s.data.toList.take k) = some m) (fun _ i => s.size - (RowKit.intOf i).toNat)
    case atStart => exact ⟨0, 0, Nat.zero_le _, rfl, rfl, by simp [decFrom]⟩
    case round =>
      obtain ⟨k, m, hk, rfl, rfl, hd⟩ := hrel
      have hm6 := dec_small (by omega) hd
      by_cases hlt : k < s.size
      · have hb0 : 0 ≤ (s[k].toNat : Int) ∧ (s[k].toNat : Int) ≤ 255 := by have := s[k].toNat_lt; omega
        have HG := Lib.hid (byte_getElem? s k hlt)
        by_cases h48 : 48 ≤ (s[k].toNat : Int)
        · by_cases h57 : (s[k].toNat : Int) ≤ 57
          · have HT := Lib.hid (take_one s k m hlt hd h48 h57)
            clear hd
            go_wp2_with (first | (go_at_call 25; fail))
            go_round
            case rel => exact ⟨k + 1, m * 10 + (s[k].toNat - 48), by omega, by go_num, by go_num, HT.out⟩
            case measure => simp [RowKit.intOf]; omega
          · have hn := Lib.hid (val_bad HM.out (decFrom_bad HG.out (digitVal_no (by omega))))
            clear hd
            go_wp2_with (first | (go_at_call 25; fail))
            go_ret2
            exact ⟨rd_none hn.out, Still.refl _⟩
        · have hn := Lib.hid (val_bad HM.out (decFrom_bad HG.out (digitVal_no (by omega))))
          clear hd
          go_wp2_with (first | (go_at_call 25; fail))
          go_ret2
          exact ⟨rd_none hn.out, Still.refl _⟩
      · obtain rfl : k = s.size := by omega
        rw [List.take_of_length_le (Nat.le_of_eq (len_list _))] at hd
        have HD := Lib.hid hd
        clear hd
        go_wp2_with fail
        refine (num_any ((m : Int)) (by omega) (by omega) _).mono ?_
        rintro e w1 ⟨rfl, q, rfl⟩
        by_cases hf : fmtB ((m : Int)) = s
        · have hv := Lib.hid (val_eq HM.out HL.out HD.out (by rw [HS.out m]; exact hf))
          have hbe : (!(fmtB ((m : Int))).toList == s.toList) = false := by rw [hf]; simp
          clear hf
          go_wp2_with fail
          go_ret2
          refine ⟨?_, q, rfl⟩
          have := rd_some hv.out
          rw [HS.out m] at this
          exact this
        · have hv := Lib.hid (val_neq HM.out HD.out (by rw [HS.out m]; exact hf))
          have hbe := str_neq hf
          clear hf
          go_wp2_with fail
          go_ret2
          exact ⟨rd_none hv.out, q, rfl⟩
  · -- it doesn't
    have hn := Lib.hid (val_len hm (by
      have e : s.data.toList.length = s.size := len_list _
      omega))
    clear hm
    go_enter Tryd.func18, Tryd.ntmps18
    go_wp2_with (go_at_call 23; refine (in_no _ _ _ _ (by omega)).mono ?_; rintro e w' ⟨rfl, rfl⟩)
    go_ret2
    exact ⟨rd_none hn.out, Still.refl _⟩

set_option maxHeartbeats 1000000 in
theorem read_pos (s : ByteArray) (w : World) (hs : s.size ≤ 1048576) (hneg : negB s.data.toList = false) (h0 : 1 < s.size) (h45 : ((s[0].toNat : Int) == 45) = false) :
    Calls Tryd.prog 18 #[.string s] w fun e w' => RdPost s e ∧ Still w w' := by
  have hm : mag s.data.toList = s.data.toList := by unfold mag; rw [if_neg (by simp [hneg])]
  have HS := Lib.hid (fun m : Nat => (show sgn s.data.toList m = (m : Int) from by unfold sgn; rw [if_neg (by simp [hneg])]))
  clear hneg
  by_cases hl : 1 ≤ s.size ∧ s.size ≤ 6
  · -- the length fits
    have hl' : 1 ≤ s.data.toList.length ∧ s.data.toList.length ≤ 6 := by
      have e : s.data.toList.length = s.size := len_list _
      omega
    have HL := Lib.hid hl'
    have HM := Lib.hid hm
    clear hl' hm
    go_enter Tryd.func18, Tryd.ntmps18
    go_wp2_with (go_at_call 23; refine (in_yes _ _ _ _ (by omega) (by omega)).mono ?_; rintro e w' ⟨rfl, rfl⟩)
    go_loop [5, 6] (fun n i => ∃ k m : Nat, k ≤ s.size ∧ i = .int .i64 k ∧ n = .int .i64 m ∧ decFrom 0 (s.data.toList.take k) = some m) (fun _ i => s.size - (RowKit.intOf i).toNat)
    case atStart => exact ⟨0, 0, Nat.zero_le _, rfl, rfl, by simp [decFrom]⟩
    case round =>
      obtain ⟨k, m, hk, rfl, rfl, hd⟩ := hrel
      have hm6 := dec_small (by omega) hd
      by_cases hlt : k < s.size
      · have hb0 : 0 ≤ (s[k].toNat : Int) ∧ (s[k].toNat : Int) ≤ 255 := by have := s[k].toNat_lt; omega
        have HG := Lib.hid (byte_getElem? s k hlt)
        by_cases h48 : 48 ≤ (s[k].toNat : Int)
        · by_cases h57 : (s[k].toNat : Int) ≤ 57
          · have HT := Lib.hid (take_one s k m hlt hd h48 h57)
            clear hd
            go_wp2_with (first | (go_at_call 25; fail))
            go_round
            case rel => exact ⟨k + 1, m * 10 + (s[k].toNat - 48), by omega, by go_num, by go_num, HT.out⟩
            case measure => simp [RowKit.intOf]; omega
          · have hn := Lib.hid (val_bad HM.out (decFrom_bad HG.out (digitVal_no (by omega))))
            clear hd
            go_wp2_with (first | (go_at_call 25; fail))
            go_ret2
            exact ⟨rd_none hn.out, Still.refl _⟩
        · have hn := Lib.hid (val_bad HM.out (decFrom_bad HG.out (digitVal_no (by omega))))
          clear hd
          go_wp2_with (first | (go_at_call 25; fail))
          go_ret2
          exact ⟨rd_none hn.out, Still.refl _⟩
      · obtain rfl : k = s.size := by omega
        rw [List.take_of_length_le (Nat.le_of_eq (len_list _))] at hd
        have HD := Lib.hid hd
        clear hd
        go_wp2_with fail
        refine (num_any ((m : Int)) (by omega) (by omega) _).mono ?_
        rintro e w1 ⟨rfl, q, rfl⟩
        by_cases hf : fmtB ((m : Int)) = s
        · have hv := Lib.hid (val_eq HM.out HL.out HD.out (by rw [HS.out m]; exact hf))
          have hbe : (!(fmtB ((m : Int))).toList == s.toList) = false := by rw [hf]; simp
          clear hf
          go_wp2_with fail
          go_ret2
          refine ⟨?_, q, rfl⟩
          have := rd_some hv.out
          rw [HS.out m] at this
          exact this
        · have hv := Lib.hid (val_neq HM.out HD.out (by rw [HS.out m]; exact hf))
          have hbe := str_neq hf
          clear hf
          go_wp2_with fail
          go_ret2
          exact ⟨rd_none hv.out, q, rfl⟩
  · -- it doesn't
    have hn := Lib.hid (val_len hm (by
      have e : s.data.toList.length = s.size := len_list _
      omega))
    clear hm
    go_enter Tryd.func18, Tryd.ntmps18
    go_wp2_with (go_at_call 23; refine (in_no _ _ _ _ (by omega)).mono ?_; rintro e w' ⟨rfl, rfl⟩)
    go_ret2
    exact ⟨rd_none hn.out, Still.refl _⟩

set_option maxHeartbeats 1000000 in
theorem read_neg (s : ByteArray) (w : World) (hs : s.size ≤ 1048576) (hneg : negB s.data.toList = true) (h0 : 1 < s.size) (h45 : ((s[0].toNat : Int) == 45) = true) :
    Calls Tryd.prog 18 #[.string s] w fun e w' => RdPost s e ∧ Still w w' := by
  obtain ⟨t, hT⟩ : ∃ t, s.extract 1 s.size = t := ⟨_, rfl⟩
  have hm : mag s.data.toList = t.data.toList := by
    unfold mag; rw [if_pos hneg, ← hT, Lib.extract_to_end, ← List.drop_one]
  have HS := Lib.hid (fun m : Nat => (show sgn s.data.toList m = -(m : Int) from by unfold sgn; rw [if_pos hneg]))
  have hts : t.size = s.size - 1 := by rw [← hT, ByteArray.size_extract]; omega
  have htlt : t.size < s.size := by omega
  have HT0 := Lib.hid hT
  clear hneg hT
  by_cases hl : 1 ≤ t.size ∧ t.size ≤ 6
  · -- the length fits
    have hl' : 1 ≤ t.data.toList.length ∧ t.data.toList.length ≤ 6 := by
      have e : t.data.toList.length = t.size := len_list _
      omega
    have HL := Lib.hid hl'
    have hz1 : 2 ≤ s.size := by omega
    have hz2 : s.size ≤ 7 := by omega
    have HZ := Lib.hid hts
    clear hts
    have HM := Lib.hid hm
    clear hl' hm
    go_enter Tryd.func18, Tryd.ntmps18
    go_wp2_with (go_at_call 23; refine (in_yes _ _ _ _ (by omega) (by omega)).mono ?_; rintro e w' ⟨rfl, rfl⟩)
    rw [HT0.out]
    go_loop [5, 6] (fun n i => ∃ k m : Nat, k ≤ t.size ∧ i = .int .i64 k ∧ n = .int .i64 m ∧ decFrom 0 (t.data.toList.take k) = some m) (fun _ i => t.size - (RowKit.intOf i).toNat)
    case atStart => exact ⟨0, 0, Nat.zero_le _, rfl, rfl, by simp [decFrom]⟩
    case round =>
      obtain ⟨k, m, hk, rfl, rfl, hd⟩ := hrel
      have hm6 := dec_small (by omega) hd
      by_cases hlt : k < t.size
      · have hb0 : 0 ≤ (t[k].toNat : Int) ∧ (t[k].toNat : Int) ≤ 255 := by have := t[k].toNat_lt; omega
        have HG := Lib.hid (byte_getElem? t k hlt)
        by_cases h48 : 48 ≤ (t[k].toNat : Int)
        · by_cases h57 : (t[k].toNat : Int) ≤ 57
          · have HT := Lib.hid (take_one t k m hlt hd h48 h57)
            clear hd
            go_wp2_with (first | (go_at_call 25; fail))
            go_round
            case rel => exact ⟨k + 1, m * 10 + (t[k].toNat - 48), by omega, by go_num, by go_num, HT.out⟩
            case measure => simp [RowKit.intOf]; omega
          · have hn := Lib.hid (val_bad HM.out (decFrom_bad HG.out (digitVal_no (by omega))))
            clear hd
            go_wp2_with (first | (go_at_call 25; fail))
            go_ret2
            exact ⟨rd_none hn.out, Still.refl _⟩
        · have hn := Lib.hid (val_bad HM.out (decFrom_bad HG.out (digitVal_no (by omega))))
          clear hd
          go_wp2_with (first | (go_at_call 25; fail))
          go_ret2
          exact ⟨rd_none hn.out, Still.refl _⟩
      · obtain rfl : k = t.size := by omega
        rw [List.take_of_length_le (Nat.le_of_eq (len_list _))] at hd
        have HD := Lib.hid hd
        clear hd
        go_wp2_with fail
        refine (num_any (-(m : Int)) (by omega) (by omega) _).mono ?_
        rintro e w1 ⟨rfl, q, rfl⟩
        by_cases hf : fmtB (-(m : Int)) = s
        · have hv := Lib.hid (val_eq HM.out HL.out HD.out (by rw [HS.out m]; exact hf))
          have hbe : (!(fmtB (-(m : Int))).toList == s.toList) = false := by rw [hf]; simp
          clear hf
          go_wp2_with fail
          go_ret2
          refine ⟨?_, q, rfl⟩
          have := rd_some hv.out
          rw [HS.out m] at this
          exact this
        · have hv := Lib.hid (val_neq HM.out HD.out (by rw [HS.out m]; exact hf))
          have hbe := str_neq hf
          clear hf
          go_wp2_with fail
          go_ret2
          exact ⟨rd_none hv.out, q, rfl⟩
  · -- it doesn't
    have hn := Lib.hid (val_len hm (by
      have e : t.data.toList.length = t.size := len_list _
      omega))
    have hz : ¬ (1 ≤ s.size - 1 ∧ s.size - 1 ≤ 6) := by omega
    have HZ := Lib.hid hts
    clear hm hts
    go_enter Tryd.func18, Tryd.ntmps18
    go_wp2_with (go_at_call 23; refine (in_no _ _ _ _ (by omega)).mono ?_; rintro e w' ⟨rfl, rfl⟩)
    go_ret2
    exact ⟨rd_none hn.out, Still.refl _⟩

end Go.Proofs.YtnenaponiahalaaDoor.Rd
