/- The place of a Code: the program's search. -/
import Derived.Test.YtdfmfmndmldggaaCoM
import Derived.Deep.LoopGhost
namespace Go.Proofs.Ytdfmfmndmldggaa.CoP
open Go.RowKit Lb Bk CtK CoM
set_option linter.unusedSimpArgs false
set_option linter.unusedVariables false

def cmpZ (x y : Int) : Int := if x < y then -1 else if y < x then 1 else 0

set_option maxHeartbeats 400000 in
theorem nan_any (x : Int) (w : World) : Calls Try.prog 101 #[.int .i64 x] w fun e w' => e = .returned (.bool false) ∧ w' = w := by
  go_enter Try.func101, Try.ntmps101
  go_wp2
  go_ret
  exact ⟨rfl, rfl⟩
set_option maxHeartbeats 1000000 in
theorem cmp_any (x y : Int) (w : World) : Calls Try.prog 77 #[.int .i64 x, .int .i64 y] w fun e w' => e = .returned (.int .i64 (cmpZ x y)) ∧ w' = w := by
  by_cases h1 : x < y
  · have HE := Lib.hid (show cmpZ x y = -1 from if_pos h1)
    rw [HE.out]
    have d1 : decide (x < y) = true := decide_eq_true h1
    clear h1 HE
    go_enter Try.func77, Try.ntmps77
    go_wp2_with fail
    refine (nan_any _ _).mono ?_
    rintro e w1 ⟨rfl, rfl⟩
    go_wp2_with fail
    refine (nan_any _ _).mono ?_
    rintro e w1 ⟨rfl, rfl⟩
    go_wp2
    go_ret
    exact ⟨rfl, rfl⟩
  · have d1 : decide (x < y) = false := decide_eq_false h1
    by_cases h2 : y < x
    · have HE := Lib.hid (show cmpZ x y = 1 from by unfold cmpZ; rw [if_neg h1, if_pos h2])
      rw [HE.out]
      have d2 : decide (y < x) = true := decide_eq_true h2
      clear h1 h2 HE
      go_enter Try.func77, Try.ntmps77
      go_wp2_with fail
      refine (nan_any _ _).mono ?_
      rintro e w1 ⟨rfl, rfl⟩
      go_wp2_with fail
      refine (nan_any _ _).mono ?_
      rintro e w1 ⟨rfl, rfl⟩
      go_wp2
      go_ret
      exact ⟨rfl, rfl⟩
    · have HE := Lib.hid (show cmpZ x y = 0 from by unfold cmpZ; rw [if_neg h1, if_neg h2])
      rw [HE.out]
      have d2 : decide (y < x) = false := decide_eq_false h2
      clear h1 h2 HE
      go_enter Try.func77, Try.ntmps77
      go_wp2_with fail
      refine (nan_any _ _).mono ?_
      rintro e w1 ⟨rfl, rfl⟩
      go_wp2_with fail
      refine (nan_any _ _).mono ?_
      rintro e w1 ⟨rfl, rfl⟩
      go_wp2
      go_ret
      exact ⟨rfl, rfl⟩

set_option maxHeartbeats 1000000 in
theorem by_any (r : Ct) (id : Int) (w : World) : Calls Try.prog 124 #[.agg #[.int .i64 r.co, .int .i64 r.ce], .int .i64 id] w fun e w' => e = .returned (.int .i64 (cmpZ r.co id)) ∧ Below w.heap.size w w' := by
  have HB := Lib.hid ((Below.refl w.heap.size w).alloc (Nat.le_refl _) (.cells #[.int .i64 r.co, .int .i64 r.ce] 70))
  obtain ⟨⟨p0, p1⟩, -⟩ := blk_cells (Blk.new w 70 #[.int .i64 r.co, .int .i64 r.ce])
  go_enter Try.func124, Try.ntmps124
  go_wp2_with fail
  refine (cmp_any _ _ _).mono ?_
  rintro e w1 ⟨rfl, rfl⟩
  go_wp2
  go_ret
  exact ⟨rfl, HB.out⟩

/-- The place of an Id in an ascending list. -/
def Plc (rs : List Ct) (id : Int) (k : Nat) : Prop := k ≤ rs.length ∧ (∀ j, j < k → (at_ rs j).co < id) ∧ ∀ j, k ≤ j → j < rs.length → id ≤ (at_ rs j).co
theorem asc_plc {rs : List Ct} (h : Asc rs) (id : Int) : ∃ k, Plc rs id k := by
  refine ⟨rs.findIdx (fun r => decide (id ≤ r.co)), List.findIdx_le_length, fun j hj => ?_, fun j hk hj => ?_⟩
  · have hjl : j < rs.length := Nat.lt_of_lt_of_le hj List.findIdx_le_length
    have := List.not_of_lt_findIdx hj
    rw [at_lt hjl]
    simp at this
    omega
  · have hkl : rs.findIdx (fun r => decide (id ≤ r.co)) < rs.length := by omega
    have h1 := List.findIdx_getElem (w := hkl)
    have h1' : id ≤ (at_ rs (rs.findIdx (fun r => decide (id ≤ r.co)))).co := by rw [at_lt hkl]; simpa using h1
    rcases Nat.lt_or_ge (rs.findIdx (fun r => decide (id ≤ r.co))) j with h2 | h2
    · have := h.lt h2 hj
      omega
    · have : j = rs.findIdx (fun r => decide (id ≤ r.co)) := by omega
      rw [this]; exact h1'
theorem Plc.unique {rs : List Ct} {id : Int} {k j : Nat} (h : Plc rs id k) (hj : j ≤ rs.length) (h1 : ∀ t, t < j → (at_ rs t).co < id) (h2 : ∀ t, j ≤ t → t < rs.length → id ≤ (at_ rs t).co) : j = k := by
  rcases Nat.lt_trichotomy j k with hl | he | hg
  · have a := h.2.1 j hl
    have b := h2 j (Nat.le_refl _) (by have := h.1; omega)
    omega
  · exact he
  · have a := h1 k hg
    have b := h.2.2 k (Nat.le_refl _) (by omega)
    omega
def fndB (rs : List Ct) (id : Int) (k : Nat) : Bool := decide (k < rs.length ∧ (at_ rs k).co = id)

set_option maxRecDepth 20000 in
set_option maxHeartbeats 4000000 in
theorem search_any (rs : List Ct) (hl : rs.length ≤ 1048576) (ha : Asc rs) (id : Int) (k0 : Nat) (hk0 : Plc rs id k0) (a : Option Addr) (cap : Nat) (w : World) (hr : Row w a rs) :
    Calls Try.prog 123 #[.slice a rs.length cap, .int .i64 id, .func (.func 124) #[] #[]] w fun e w' => e = .returned (.tuple #[.int .i64 k0, .bool (fndB rs id k0)]) ∧ Below w.heap.size w w' := by
  have H := Lib.hid hr
  have HA := Lib.hid ha
  have HP := Lib.hid hk0
  obtain ⟨n, hn⟩ : ∃ n, rs.length = n := ⟨_, rfl⟩
  have HN := Lib.hid hn
  obtain ⟨fb, hfb⟩ : ∃ b, fndB rs id k0 = b := ⟨_, rfl⟩
  have HF := Lib.hid hfb
  rw [hfb, hn]
  rw [hn] at hl
  clear hr ha hk0 hn hfb
  go_enter Try.func123, Try.ntmps123
  go_wp2
  go_loopg [9, 10, 11] n (fun kx s9 s10 _ wr => ∃ lo hi : Nat, s9 = .int .i64 lo ∧ s10 = .int .i64 hi ∧ lo ≤ hi ∧ hi ≤ n ∧ hi - lo ≤ kx ∧ Aside ((∀ t, t < lo → (at_ rs t).co < id) ∧ (∀ t, hi ≤ t → t < n → id ≤ (at_ rs t).co)) ∧ Below w.heap.size w wr)
  case atStart => exact ⟨0, n, rfl, rfl, Nat.zero_le _, Nat.le_refl _, by omega, (⟨fun t ht => absurd ht (Nat.not_lt_zero _), fun t h1 h2 => by omega⟩ : (∀ t, t < 0 → (at_ rs t).co < id) ∧ (∀ t, n ≤ t → t < n → id ≤ (at_ rs t).co)), Below.refl _ _⟩
  case round =>
    obtain ⟨lo, hi, rfl, rfl, hlh, hin, hg, I, hB⟩ := hrel
    have HB := Lib.hid hB
    clear hB
    by_cases hlt : lo < hi
    · have hmid : (lo + hi) / 2 < n := by omega
      obtain ⟨b, off, rfl, c0, c1⟩ := (H.out.later HB.out).cells (i := (lo + hi) / 2) (by rw [HN.out]; exact hmid)
      obtain ⟨y, hy⟩ : ∃ y, at_ rs ((lo + hi) / 2) = y := ⟨_, rfl⟩
      rw [hy] at c0 c1
      have HY := Lib.hid hy
      obtain ⟨z, hz⟩ : ∃ z, cmpZ y.co id = z := ⟨_, rfl⟩
      have CB := Lib.hid (fun w => hz ▸ by_any y id w)
      have HZ := Lib.hid (show (z < 0 ↔ y.co < id) from by rw [← hz]; unfold cmpZ; split <;> (try split) <;> omega)
      clear hy hz
      by_cases hz0 : z < 0
      · have I2 : Aside ((∀ t, t < (lo + hi) / 2 + 1 → (at_ rs t).co < id) ∧ (∀ t, hi ≤ t → t < n → id ≤ (at_ rs t).co)) := ⟨fun t ht => by
          have h1 := HZ.out.1 hz0
          rw [← HY.out] at h1
          rcases Nat.lt_or_ge t ((lo + hi) / 2) with h2 | h2
          · exact Int.lt_trans (HA.out.lt h2 (by rw [HN.out]; exact hmid)) h1
          · obtain rfl : t = (lo + hi) / 2 := by omega
            exact h1, I.out.2⟩
        go_wp2_with (go_at_call 124; refine (CB.out _).mono ?_; rintro e w2 ⟨rfl, hb⟩; have HB2 := Lib.hid (HB.out.trans (hb.mono HB.out.size)); clear hb)
        go_roundg (hi - ((lo + hi) / 2 + 1))
        case measure => omega
        case rel => exact ⟨(lo + hi) / 2 + 1, hi, by rw [show ((lo : Int) + (hi : Int)) / 2 + 1 = (((lo + hi) / 2 + 1 : Nat) : Int) by omega], rfl, by omega, hin, Nat.le_refl _, I2, HB2.out⟩
      · have I2 : Aside ((∀ t, t < lo → (at_ rs t).co < id) ∧ (∀ t, (lo + hi) / 2 ≤ t → t < n → id ≤ (at_ rs t).co)) := ⟨I.out.1, fun t ht htn => by
          have h1 : ¬ y.co < id := fun h => hz0 (HZ.out.2 h)
          rw [← HY.out] at h1
          rcases Nat.lt_or_ge ((lo + hi) / 2) t with h2 | h2
          · have := HA.out.lt h2 (by rw [HN.out]; exact htn)
            omega
          · obtain rfl : t = (lo + hi) / 2 := by omega
            omega⟩
        go_wp2_with (go_at_call 124; refine (CB.out _).mono ?_; rintro e w2 ⟨rfl, hb⟩; have HB2 := Lib.hid (HB.out.trans (hb.mono HB.out.size)); clear hb)
        go_roundg ((lo + hi) / 2 - lo)
        case measure => omega
        case rel => exact ⟨lo, (lo + hi) / 2, rfl, by rw [show ((lo : Int) + (hi : Int)) / 2 = (((lo + hi) / 2 : Nat) : Int) by omega], by omega, by omega, Nat.le_refl _, I2, HB2.out⟩
    · obtain rfl : hi = lo := by omega
      have hk : hi = k0 := HP.out.unique (by rw [HN.out]; exact hin) I.out.1 (by rw [HN.out]; exact I.out.2)
      subst hk
      by_cases hn : hi < n
      · obtain ⟨b, off, rfl, c0, c1⟩ := (H.out.later HB.out).cells (i := hi) (by rw [HN.out]; exact hn)
        obtain ⟨y, hy⟩ : ∃ y, at_ rs hi = y := ⟨_, rfl⟩
        rw [hy] at c0 c1
        have HY := Lib.hid hy
        obtain ⟨z, hz⟩ : ∃ z, cmpZ y.co id = z := ⟨_, rfl⟩
        have CB := Lib.hid (fun w => hz ▸ by_any y id w)
        have HZ := Lib.hid (show (z == 0) = fb from by
          rw [← HF.out]
          unfold fndB
          rw [hy, HN.out, ← hz]
          unfold cmpZ
          by_cases h1 : y.co < id
          · rw [if_pos h1, decide_eq_false (by omega)]; rfl
          · by_cases h2 : id < y.co
            · rw [if_neg h1, if_pos h2, decide_eq_false (by omega)]; rfl
            · rw [if_neg h1, if_neg h2, decide_eq_true (by omega)]; rfl)
        have hzf : (z == 0) = fb := HZ.out
        clear hy hz
        go_wp2_with (go_at_call 124; refine (CB.out _).mono ?_; rintro e w2 ⟨rfl, hb⟩; have HB2 := Lib.hid (HB.out.trans (hb.mono HB.out.size)); clear hb)
        go_ret2
        exact ⟨rfl, HB2.out⟩
      · have HZ := Lib.hid (show false = fb from by rw [← HF.out]; unfold fndB; rw [HN.out, decide_eq_false (fun h => hn h.1)])
        have hq : fb = false := HZ.out.symm
        subst hq
        go_wp2
        go_ret2
        exact ⟨rfl, HB.out⟩

set_option maxHeartbeats 1000000 in
theorem place_any (rs : List Ct) (hl : rs.length ≤ 1048576) (ha : Asc rs) (id : Int) (k0 : Nat) (hk0 : Plc rs id k0) (a : Option Addr) (cap : Nat) (w : World) (hr : Row w a rs) :
    Calls Try.prog 98 #[.slice a rs.length cap, .int .i64 id] w fun e w' => e = .returned (.tuple #[.int .i64 k0, .bool (fndB rs id k0)]) ∧ Below w.heap.size w w' := by
  have c1 := Lib.hid (search_any rs hl ha id k0 hk0 a cap w hr)
  clear hr ha hk0
  go_enter Try.func98, Try.ntmps98
  go_wp2_with fail
  refine c1.out.mono ?_
  rintro e w1 ⟨rfl, hb⟩
  have HB := Lib.hid hb
  clear hb
  go_wp2
  go_ret2
  exact ⟨rfl, HB.out⟩

end Go.Proofs.Ytdfmfmndmldggaa.CoP
