/- Where a Code stands first: the model's search. -/
import Derived.Test.YtdfmfmndmldggaaCoP
namespace Go.Proofs.Ytdfmfmndmldggaa.CoF
open Go.RowKit Lb Bk CtK CoM CoP
set_option linter.unusedSimpArgs false
set_option linter.unusedVariables false

/-- Where an Id stands first, or -1. -/
def fiZ (rs : List Ct) (id : Int) : Int := if rs.findIdx (fun r => r.co == id) < rs.length then (rs.findIdx (fun r => r.co == id) : Nat) else -1
theorem fi_at {rs : List Ct} {id : Int} {k : Nat} (hk : k < rs.length) (h : ∀ j, j < k → (at_ rs j).co ≠ id) (h1 : (at_ rs k).co = id) : fiZ rs id = k := by
  have : rs.findIdx (fun r => r.co == id) = k := by
    rw [List.findIdx_eq hk]
    refine ⟨by rw [← at_lt hk]; simpa using h1, fun j hj => ?_⟩
    have := h j hj
    rw [at_lt (by omega)] at this
    simpa using this
  unfold fiZ
  rw [this, if_pos hk]
theorem fi_no {rs : List Ct} {id : Int} (h : ∀ j, j < rs.length → (at_ rs j).co ≠ id) : fiZ rs id = -1 := by
  unfold fiZ
  rw [if_neg]
  intro hk
  have := List.findIdx_getElem (w := hk)
  have h2 := h _ hk
  rw [at_lt hk] at h2
  simp at this
  exact h2 this

set_option maxHeartbeats 1000000 in
theorem find_any (rs : List Ct) (hl : rs.length ≤ 1048576) (id : Int) (ad : Option Addr) (cap : Nat) (w : World) (hr : Row w ad rs) :
    Calls Try.prog 87 #[.slice ad rs.length cap, .int .i64 id] w fun e w' => e = .returned (.int .i64 (fiZ rs id)) ∧ w' = w := by
  have H := Lib.hid hr
  obtain ⟨n, hn⟩ : ∃ n, rs.length = n := ⟨_, rfl⟩
  have HN := Lib.hid hn
  rw [hn] at hl ⊢
  clear hr hn
  go_enter Try.func87, Try.ntmps87
  go_wp2
  go_loop [5] (fun i => ∃ k : Nat, k ≤ n ∧ i = .int .i64 k ∧ ∀ j, j < k → (at_ rs j).co ≠ id) (fun i => n - (intOf i).toNat)
  case atStart => exact ⟨0, Nat.zero_le _, rfl, fun j hj => absurd hj (Nat.not_lt_zero _)⟩
  case round =>
    obtain ⟨k, hk, rfl, hall⟩ := hrel
    have HA := Lib.hid hall
    clear hall
    by_cases hlt : k < n
    · obtain ⟨b, off, rfl, c0, -⟩ := H.out.cells (i := k) (by rw [HN.out]; exact hlt)
      obtain ⟨z, hz⟩ : ∃ z, (at_ rs k).co = z := ⟨_, rfl⟩
      rw [hz] at c0
      have HZ := Lib.hid hz
      clear hz
      by_cases h1 : z = id
      · have HE := Lib.hid (fi_at (by rw [HN.out]; exact hlt) HA.out (show (at_ rs k).co = id from by rw [HZ.out]; exact h1))
        have h1' : (z == id) = true := by simpa using h1
        clear h1
        go_wp2
        go_ret
        exact ⟨ret_int HE.out.symm, rfl⟩
      · have hp := Lib.hid (show (at_ rs k).co ≠ id from by rw [HZ.out]; exact h1)
        have h1' : (z == id) = false := by simpa using h1
        clear h1
        go_wp2
        go_round
        case rel => exact ⟨k + 1, by omega, by go_num, all_succ (p := fun j => (at_ rs j).co ≠ id) HA.out hp.out⟩
        case measure => simp [intOf]; omega
    · obtain rfl : k = n := by omega
      have HE := Lib.hid (fi_no (rs := rs) (id := id) (by rw [HN.out]; exact HA.out))
      go_wp2
      go_ret
      exact ⟨ret_int HE.out.symm, rfl⟩

/-- In an ascending list the search finds the place. -/
theorem fi_plc {rs : List Ct} {id : Int} {k : Nat} (hp : Plc rs id k) : (fndB rs id k = true → fiZ rs id = k) ∧ (fndB rs id k = false → Asc rs → fiZ rs id = -1) := by
  constructor
  · intro h
    obtain ⟨hk, he⟩ := of_decide_eq_true h
    exact fi_at hk (fun j hj e => by have := hp.2.1 j hj; omega) he
  · intro h hasc
    have hn : ¬ (k < rs.length ∧ (at_ rs k).co = id) := of_decide_eq_false h
    refine fi_no fun j hj e => ?_
    rcases Nat.lt_trichotomy j k with hl | rfl | hg
    · have := hp.2.1 j hl; omega
    · exact hn ⟨hj, e⟩
    · have h1 := hp.2.2 k (Nat.le_refl _) (by omega)
      have h2 := hasc.lt hg hj
      omega


theorem fi_ge {rs : List Ct} {id : Int} {k : Nat} (h : fiZ rs id = (k : Int)) : k < rs.length := by
  unfold fiZ at h
  split at h
  · rename_i h1
    have : rs.findIdx (fun r => r.co == id) = k := by omega
    omega
  · omega
theorem fi_cases (rs : List Ct) (id : Int) : fiZ rs id = -1 ∨ ∃ k : Nat, fiZ rs id = (k : Int) ∧ k < rs.length ∧ (at_ rs k).co = id := by
  by_cases h : rs.findIdx (fun r => r.co == id) < rs.length
  · refine .inr ⟨_, if_pos h, h, ?_⟩
    have := List.findIdx_getElem (w := h)
    rw [at_lt h]
    simpa using this
  · exact .inl (if_neg h)
end Go.Proofs.Ytdfmfmndmldggaa.CoF
