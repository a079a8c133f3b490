/- The place of a text in an ascending list of texts: the program's search. -/
import Derived.Test.YtjngnjokbnklfaaClM
import Derived.Test.YtjngnjokbnklfaaStrA
import Derived.Deep.LoopGhost
namespace Go.Proofs.Ytjngnjokbnklfaa.SeS
open Go.RowKit Lb Bk ClM
set_option linter.unusedSimpArgs false
set_option linter.unusedVariables false

theorem cells_ {w : World} {a : Option Addr} {cs : List ByteArray} (H : StrK.Row w a cs) {i : Nat} (hi : i < cs.length) (d : ByteArray) : ∃ b off, a = some ⟨b, off, none⟩ ∧ w.cell? ⟨b, off + i, none⟩ = some (.string (cs.getD i d)) := by
  rcases H with h | ⟨b, o, rfl, hc⟩
  · omega
  · refine ⟨b, o, rfl, ?_⟩
    rw [hc i hi]
    simp [sAt, hi]

set_option maxHeartbeats 400000 in
theorem nanC (x : ByteArray) (w : World) : Calls Try.prog 141 #[.string x] w fun e w' => e = .returned (.bool false) ∧ w' = w := by
  go_enter Try.func141, Try.ntmps141
  go_wp2
  go_ret
  exact ⟨by simp, rfl⟩
set_option maxHeartbeats 400000 in
theorem nanS (x : ByteArray) (w : World) : Calls Try.prog 128 #[.string x] w fun e w' => e = .returned (.bool false) ∧ w' = w := by
  go_enter Try.func128, Try.ntmps128
  go_wp2
  go_ret
  exact ⟨by simp, rfl⟩
set_option maxHeartbeats 1000000 in
theorem less (x y : ByteArray) (w : World) : Calls Try.prog 127 #[.string x, .string y] w fun e w' => e = .returned (.bool (ltB x y)) ∧ w' = w := by
  obtain ⟨l, hl⟩ : ∃ l, ltB x y = l := ⟨_, rfl⟩
  have hl' : Op.bytesLess x.toList y.toList = l := hl
  rw [hl]
  clear hl
  go_enter Try.func127, Try.ntmps127
  go_wp2_with (go_at_call 141; refine (nanC _ _).mono ?_; rintro e w' ⟨rfl, rfl⟩)
  go_ret
  exact ⟨rfl, rfl⟩

set_option maxRecDepth 20000 in
set_option maxHeartbeats 4000000 in
theorem search_any (cs : List ByteArray) (hl : cs.length ≤ 1048576) (ha : SAsc cs) (c : ByteArray) (a : Option Addr) (cap : Nat) (w : World) (hr : StrK.Row w a cs) :
    Calls Try.prog 93 #[.slice a cs.length cap, .string c] w fun e w' => e = .returned (.tuple #[.int .i64 (plc cs c), .bool (hasB cs c)]) ∧ Below w.heap.size w w' := by
  have H := Lib.hid hr
  have HA := Lib.hid ha
  obtain ⟨n, hn⟩ : ∃ n, cs.length = n := ⟨_, rfl⟩
  have HN := Lib.hid hn
  obtain ⟨k0, hk0⟩ : ∃ k, plc cs c = k := ⟨_, rfl⟩
  have HP := Lib.hid hk0
  obtain ⟨fb, hfb⟩ : ∃ b, hasB cs c = b := ⟨_, rfl⟩
  have HF := Lib.hid hfb
  rw [hfb, hn, hk0]
  rw [hn] at hl
  clear hr ha hn hfb hk0
  go_enter Try.func93, Try.ntmps93
  go_wp2
  go_loopg [7, 8, 9] n (fun kx s7 s8 _ wr => ∃ lo hi : Nat, s7 = .int .i64 lo ∧ s8 = .int .i64 hi ∧ lo ≤ hi ∧ hi ≤ n ∧ hi - lo ≤ kx ∧ Aside ((∀ t, t < lo → ltB (cs.getD t c) c = true) ∧ (∀ t, hi ≤ t → t < n → ltB (cs.getD t c) c = false)) ∧ Below w.heap.size w wr)
  case atStart => exact ⟨0, n, rfl, rfl, Nat.zero_le _, Nat.le_refl _, by omega, (⟨fun t ht => absurd ht (Nat.not_lt_zero _), fun t h1 h2 => by omega⟩ : (∀ t, t < 0 → ltB (cs.getD t c) c = true) ∧ (∀ t, n ≤ t → t < n → ltB (cs.getD t c) c = false)), Below.refl _ _⟩
  case round =>
    obtain ⟨lo, hi, rfl, rfl, hlh, hin, hg, I, hB⟩ := hrel
    have HB := Lib.hid hB
    clear hB
    by_cases hlt : lo < hi
    · have hmid : (lo + hi) / 2 < n := by omega
      obtain ⟨b, off, rfl, c0⟩ := cells_ (StrK.Row.later H.out HB.out) (i := (lo + hi) / 2) (by rw [HN.out]; exact hmid) c
      obtain ⟨y, hy⟩ : ∃ y, cs.getD ((lo + hi) / 2) c = y := ⟨_, rfl⟩
      rw [hy] at c0
      have HY := Lib.hid hy
      obtain ⟨z, hz⟩ : ∃ z, ltB y c = z := ⟨_, rfl⟩
      have CB := Lib.hid (fun w => hz ▸ less y c w)
      have HZ := Lib.hid hz
      clear hy hz
      cases z with
      | true =>
        have I2 : Aside ((∀ t, t < (lo + hi) / 2 + 1 → ltB (cs.getD t c) c = true) ∧ (∀ t, hi ≤ t → t < n → ltB (cs.getD t c) c = false)) := ⟨fun t ht => by
          have h1 := HZ.out
          rw [← HY.out] at h1
          rcases Nat.lt_or_ge t ((lo + hi) / 2) with h2 | h2
          · exact ltB_trans (HA.out.get c h2 (by rw [HN.out]; exact hmid)) h1
          · obtain rfl : t = (lo + hi) / 2 := by omega
            exact h1, I.out.2⟩
        go_wp2_with (go_at_call 127; refine (CB.out _).mono ?_; rintro e w2 ⟨rfl, hb⟩; obtain rfl := hb.symm)
        go_roundg (hi - ((lo + hi) / 2 + 1))
        case measure => omega
        case rel => exact ⟨(lo + hi) / 2 + 1, hi, by rw [show ((lo : Int) + (hi : Int)) / 2 + 1 = (((lo + hi) / 2 + 1 : Nat) : Int) by omega], rfl, by omega, hin, Nat.le_refl _, I2, HB.out⟩
      | false =>
        have I2 : Aside ((∀ t, t < lo → ltB (cs.getD t c) c = true) ∧ (∀ t, (lo + hi) / 2 ≤ t → t < n → ltB (cs.getD t c) c = false)) := ⟨I.out.1, fun t ht htn => by
          have h1 := HZ.out
          rw [← HY.out] at h1
          rcases Nat.lt_or_ge ((lo + hi) / 2) t with h2 | h2
          · cases h3 : ltB (cs.getD t c) c with
            | false => rfl
            | true =>
              have := ltB_trans (HA.out.get c h2 (by rw [HN.out]; exact htn)) h3
              rw [h1] at this
              cases this
          · obtain rfl : t = (lo + hi) / 2 := by omega
            exact h1⟩
        go_wp2_with (go_at_call 127; refine (CB.out _).mono ?_; rintro e w2 ⟨rfl, hb⟩; obtain rfl := hb.symm)
        go_roundg ((lo + hi) / 2 - lo)
        case measure => omega
        case rel => exact ⟨lo, (lo + hi) / 2, rfl, by rw [show ((lo : Int) + (hi : Int)) / 2 = (((lo + hi) / 2 : Nat) : Int) by omega], by omega, by omega, Nat.le_refl _, I2, HB.out⟩
    · obtain rfl : hi = lo := by omega
      have hk : hi = k0 := by
        rw [← HP.out]
        exact (plc_unique (by rw [HN.out]; exact hin) I.out.1 (fun h => I.out.2 hi (Nat.le_refl _) (by rw [HN.out] at h; exact h))).symm
      subst hk
      by_cases hn : hi < n
      · obtain ⟨b, off, rfl, c0⟩ := cells_ (StrK.Row.later H.out HB.out) (i := hi) (by rw [HN.out]; exact hn) c
        obtain ⟨y, hy⟩ : ∃ y, cs.getD hi c = y := ⟨_, rfl⟩
        rw [hy] at c0
        have HZ := Lib.hid (show (y.toList == c.toList) = fb from by
          rw [← HF.out]
          unfold ClM.hasB
          rw [HP.out, HN.out, hy]
          by_cases h1 : y = c
          · rw [decide_eq_true ⟨hn, h1⟩, h1]; simp
          · rw [decide_eq_false (fun h => h1 h.2), beq_eq_false_iff_ne]
            exact fun h => h1 (eq_of_toList h))
        have hzf : (y.toList == c.toList) = fb := HZ.out
        clear hy
        cases fb
        all_goals
          go_wp2_with (go_at_call 128; refine (nanS _ _).mono ?_; rintro e w' ⟨rfl, hb⟩; obtain rfl := hb.symm)
          all_goals
            go_ret2
            first | exact ⟨rfl, HB.out⟩ | exact ⟨rfl, HB.out.drew⟩ | exact ⟨rfl, Bk.below_drewN HB.out _⟩
      · have hq : fb = false := by rw [← HF.out]; unfold ClM.hasB; rw [HP.out, HN.out, decide_eq_false (fun h => hn h.1)]
        subst hq
        go_wp2_with (go_at_call 128; refine (nanS _ _).mono ?_; rintro e w' ⟨rfl, hb⟩; obtain rfl := hb.symm)
        all_goals
          go_ret2
          first | exact ⟨rfl, HB.out⟩ | exact ⟨rfl, HB.out.drew⟩ | exact ⟨rfl, Bk.below_drewN HB.out _⟩

end Go.Proofs.Ytjngnjokbnklfaa.SeS
