/- SplitString: the model's text. -/
import Derived.Test.YtcilgbniahaejaaSplC
namespace Go.Proofs.Ytcilgbniahaejaa.SplS
open Go.RowKit Lb SplC
set_option linter.unusedSimpArgs false
set_option linter.unusedVariables false

/-- A new list of strings. -/
def NewStrs (w : World) (ps : List ByteArray) (v : Value) (W' : World) : Prop :=
  W'.ownsRow w.heap.size 9 1 v ps.length (ps.map Value.string) ∧ Below w.heap.size w W'

/-- A list of strings and whether there is one. -/
def SplPost (w : World) (ps : List ByteArray) (ok : Bool) (e : Ending) (W' : World) : Prop :=
  ∃ v, e = .returned (.tuple #[v, .bool ok]) ∧ NewStrs w ps v W'

theorem implSplit_ok (s sep : ByteArray) (w : World) (hs : s.size ≤ 4000) (h1 : sep.size = 1) (hp : 0 < sep.size) :
    Calls Try.prog 10 #[.string s, .string sep] w (SplPost w (parts s sep[0]) true) :=
  (callsIn_wide (n := 3)).1 ((split_in _ 3 trivial trivial trivial rfl (Nat.le_refl _) s sep hs h1 hp w).mono fun e W' ⟨v, he, ho, hb⟩ => ⟨v, he, ho, hb⟩)

set_option maxHeartbeats 400000 in
theorem implSplit_no (s sep : ByteArray) (w : World) (hs : s.size ≤ maxLen) (hs' : sep.size ≤ maxLen) (h : 4000 < s.size ∨ sep.size ≠ 1) :
    Calls Try.prog 10 #[.string s, .string sep] w (SplPost w [] false) := by
  unfold maxLen at hs hs'
  by_cases h1 : 4000 < s.size
  · clear h
    go_enter Try.func10, Try.ntmps10
    go_wp2
    go_ret2
    exact ⟨_, rfl, World.ownsRow_made w #[] 0 (Nat.le_refl _) (Nat.zero_le _) rfl, (Below.refl _ _).alloc (Nat.le_refl _) _⟩
  · have h2 : ((sep.size : Int) != 1) = true := by simp; rcases h with h | h <;> omega
    clear h
    go_enter Try.func10, Try.ntmps10
    go_wp2
    go_ret2
    exact ⟨_, rfl, World.ownsRow_made w #[] 0 (Nat.le_refl _) (Nat.zero_le _) rfl, (Below.refl _ _).alloc (Nat.le_refl _) _⟩

set_option maxHeartbeats 1000000 in
theorem l1Split_any (s : ByteArray) (c : UInt8) (w : World) (hs : s.size ≤ 1048576) :
    Calls Try.prog 32 #[.string s, .int .u8 c.toNat] w fun e W' => ∃ v, e = .returned v ∧ NewStrs w (parts s c) v W' := by
  obtain ⟨i0, hi, hz0, hz1, hz2⟩ := info_parts sInfo
  go_enter Try.func32, Try.ntmps32
  go_wp2
  have hO0 : (w.alloc (.cells #[] 9)).ownsRow w.heap.size 9 1 (.slice (some ⟨w.heap.size, 0, none⟩) 0 0) 0 [] := World.ownsRow_made w #[] 0 (Nat.le_refl _) (Nat.zero_le _) rfl
  go_loopw [5, 6, 7] (fun o f i wr => ∃ k : Nat, k ≤ s.size ∧ i = .int .i64 k ∧ f = .int .i64 ((cut s c k).1 : Nat) ∧ wr.ownsRow w.heap.size 9 1 o (cut s c k).2.length ((cut s c k).2.map .string) ∧ Below w.heap.size w wr) (fun _ _ i _ => s.size - (intOf i).toNat)
  case atStart => exact ⟨0, Nat.zero_le _, rfl, rfl, hO0, (Below.refl _ _).alloc (Nat.le_refl _) _⟩
  case round =>
    obtain ⟨k, hk, rfl, rfl, hown, hbel⟩ := hrel
    have hcl := cut_le s c k
    have hsz := hbel.size
    by_cases hlt : k < s.size
    · by_cases he : s[k] = c
      · have hb := u8_beq_yes he
        have hm := Lib.hid (cut_hit hlt he)
        clear he
        go_wp2_with (at_builtin; refine wpList_append_own _ rfl (.tmp 20) (.tmp 25) 26 rfl w.heap.size 9 i0 (.string ByteArray.empty) 1 16 Try.underlying26 hi hz0 hz1 hz2 rfl (by decide) _ _ _ rfl (hown.alloc _) ⟨wr.heap.size, 0, none⟩ 1 1 [.string (s.extract (cut s c k).1 k)] rfl rfl (cell_one_new _ _ _) (by simp [Value.oneCell']) (by unfold maxLen; omega) (by omega) (by simp; omega) ?_; intro v' w1 hown1 hgrow _)
        have hb1 := ((hbel.alloc hsz (.cells #[.string (s.extract (cut s c k).1 k)] 9)).grown hgrow (by simp; omega) (fun k e => (hown.lt k e).1))
        go_roundw
        case rel => exact ⟨k + 1, by omega, by go_num, by rw [hm.out]; go_num, by rw [hm.out]; simpa using hown1, hb1⟩
        case measure => simp [intOf]; omega
      · have hb := u8_beq_no he
        have hm := Lib.hid (cut_miss hlt he)
        clear he
        go_wp2
        go_roundw
        case rel => exact ⟨k + 1, by omega, by go_num, by rw [hm.out], by rw [hm.out]; exact hown, hbel⟩
        case measure => simp [intOf]; omega
    · obtain rfl : k = s.size := by omega
      go_wp2_with (at_builtin; refine wpList_append_own _ rfl (.tmp 29) (.tmp 33) 26 rfl w.heap.size 9 i0 (.string ByteArray.empty) 1 16 Try.underlying26 hi hz0 hz1 hz2 rfl (by decide) _ _ _ rfl (hown.alloc _) ⟨wr.heap.size, 0, none⟩ 1 1 [.string (s.extract (cut s c s.size).1 s.size)] rfl rfl (cell_one_new _ _ _) (by simp [Value.oneCell']) (by unfold maxLen; omega) (by omega) (by simp; omega) ?_; intro v' w1 hown1 hgrow _)
      go_ret
      exact ⟨v', rfl, by simpa [parts] using hown1, ((hbel.alloc hsz _).grown hgrow (by simp; omega) (fun k e => (hown.lt k e).1))⟩

set_option maxHeartbeats 400000 in
theorem specSplit_ok (s sep : ByteArray) (w : World) (hs : s.size ≤ 4000) (h1 : sep.size = 1) (hp : 0 < sep.size) :
    Calls Try.prog 17 #[.string s, .string sep] w (SplPost w (parts s sep[0]) true) := by
  have h2 : ((sep.size : Int) != 1) = false := by simp [h1]
  clear h1
  have hc := Lib.hid (fun w => l1Split_any s sep[0] w (by omega))
  go_enter Try.func17, Try.ntmps17
  go_wp2_with fail
  refine (hc.out _).mono ?_
  rintro e w1 ⟨v, rfl, hn⟩
  go_wp2
  go_ret2
  exact ⟨_, rfl, hn⟩

set_option maxHeartbeats 400000 in
theorem specSplit_no (s sep : ByteArray) (w : World) (hs : s.size ≤ maxLen) (hs' : sep.size ≤ maxLen) (h : 4000 < s.size ∨ sep.size ≠ 1) :
    Calls Try.prog 17 #[.string s, .string sep] w (SplPost w [] false) := by
  unfold maxLen at hs hs'
  by_cases h1 : sep.size = 1
  · have h3 : 4000 < s.size := by rcases h with h | h <;> omega
    have h2 : ((sep.size : Int) != 1) = false := by simp [h1]
    clear h h1
    go_enter Try.func17, Try.ntmps17
    go_wp2
    go_ret2
    exact ⟨_, rfl, World.ownsRow_made w #[] 0 (Nat.le_refl _) (Nat.zero_le _) rfl, (Below.refl _ _).alloc (Nat.le_refl _) _⟩
  · have h2 : ((sep.size : Int) != 1) = true := by simp; omega
    clear h
    go_enter Try.func17, Try.ntmps17
    go_wp2
    go_ret2
    exact ⟨_, rfl, World.ownsRow_made w #[] 0 (Nat.le_refl _) (Nat.zero_le _) rfl, (Below.refl _ _).alloc (Nat.le_refl _) _⟩

/-- Both texts answer alike. -/
theorem split_both (s sep : ByteArray) (hs : s.size ≤ 1048576) (hs' : sep.size ≤ 1048576) : ∃ ps ok, ps.length ≤ 4001 ∧
    (∀ w, Calls Try.prog 17 #[.string s, .string sep] w (SplPost w ps ok)) ∧ (∀ w, Calls Try.prog 10 #[.string s, .string sep] w (SplPost w ps ok)) := by
  by_cases h : 4000 < s.size ∨ sep.size ≠ 1
  · exact ⟨[], false, by simp, fun w => specSplit_no s sep w (by unfold maxLen; omega) (by unfold maxLen; omega) h, fun w => implSplit_no s sep w (by unfold maxLen; omega) (by unfold maxLen; omega) h⟩
  · have h1 : s.size ≤ 4000 := by by_cases e : 4000 < s.size
                                  · exact absurd (.inl e) h
                                  · omega
    have h2 : sep.size = 1 := by by_cases e : sep.size = 1
                                 · exact e
                                 · exact absurd (.inr e) h
    have hp : 0 < sep.size := by omega
    have := (parts_length s sep[0]).1
    exact ⟨_, true, by omega, fun w => specSplit_ok s sep w h1 h2 hp, fun w => implSplit_ok s sep w h1 h2 hp⟩

end Go.Proofs.Ytcilgbniahaejaa.SplS
