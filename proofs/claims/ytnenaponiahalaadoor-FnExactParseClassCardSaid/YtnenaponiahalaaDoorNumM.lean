/- Decimal numbers and their texts: plain lemmas. -/
import Derived.Test.YtnenaponiahalaaDoorNumW
import Derived.Lib.Atoi
import Derived.Lib.AtoiTie
namespace Go.Proofs.YtnenaponiahalaaDoor.NumM
open Go.RowKit Lb Fmt Go.Lib

theorem digitVal_digit (d : Nat) (h : d < 10) : digitVal (UInt8.ofNat (48 + d)) = some d := by
  have e : (UInt8.ofNat (48 + d)).toNat = 48 + d := by simp [UInt8.toNat_ofNat']; omega
  unfold digitVal
  rw [e, if_pos (by omega)]
  simp

theorem decFrom_append (a b : List UInt8) (acc : Nat) : decFrom acc (a ++ b) = (decFrom acc a).bind (fun m => decFrom m b) := by
  induction a generalizing acc with
  | nil => rfl
  | cons c r ih =>
    simp only [List.cons_append, decFrom]
    cases digitVal c with
    | none => rfl
    | some d => exact ih _

theorem decFrom_digits (u : Nat) : decFrom 0 (decDigits u) = some u := by
  induction u using Nat.strongRecOn with
  | _ u ih =>
    by_cases h : u < 10
    · rw [decDigits_one h]
      simp only [decFrom, digitVal_digit u h]
      congr 1
      omega
    · rw [decDigits.eq_1 u, dif_neg h, decFrom_append, ih (u / 10) (by omega)]
      simp only [Option.bind_some, decFrom, digitVal_digit (u % 10) (Nat.mod_lt u (by omega))]
      congr 1
      omega

theorem decDigits_head (u : Nat) : ∃ d r, d < 10 ∧ decDigits u = UInt8.ofNat (48 + d) :: r := by
  induction u using Nat.strongRecOn with
  | _ u ih =>
    by_cases h : u < 10
    · exact ⟨u, [], h, decDigits_one h⟩
    · obtain ⟨d, r, hd, e⟩ := ih (u / 10) (by omega)
      exact ⟨d, r ++ [UInt8.ofNat (48 + u % 10)], hd, by rw [decDigits.eq_1 u, dif_neg h, e]; rfl⟩

theorem nDigits_le (k : Nat) : ∀ v : Nat, v < 10 ^ k → 0 < k → nDigits v ≤ k := by
  induction k with
  | zero => intro v _ h; omega
  | succ k ih =>
    intro v hv _
    by_cases h10 : v < 10
    · rw [nDigits_small h10]; omega
    · rw [nDigits, dif_neg h10]
      have hk : 0 < k := by
        rcases Nat.eq_zero_or_pos k with h0 | h0
        · subst h0; omega
        · exact h0
      have := ih (v / 10) (by rw [Nat.pow_succ] at hv; omega) hk
      omega

/-- Whether a text begins with a sign and goes on. -/
def negB (l : List UInt8) : Bool := decide (1 < l.length) && (l.head? == some 45)
/-- What stands behind the sign. -/
def mag (l : List UInt8) : List UInt8 := if negB l then l.tail else l
def sgn (l : List UInt8) (m : Nat) : Int := if negB l then -(m : Int) else m

/-- The number of a text, if it is the text of one. -/
def val (s : ByteArray) : Option Int :=
  if 1 ≤ (mag s.data.toList).length ∧ (mag s.data.toList).length ≤ 6 then
    match decFrom 0 (mag s.data.toList) with
    | some m => if fmtB (sgn s.data.toList m) = s then some (sgn s.data.toList m) else none
    | none => none
  else none

theorem decFrom_bound {l : List UInt8} {m : Nat} (h : decFrom 0 l = some m) (hl : l.length ≤ 6) : m ≤ 999999 := by
  have h1 := decFrom_lt l 0 m h
  have h2 : 10 ^ l.length ≤ 10 ^ 6 := Nat.pow_le_pow_right (by omega) hl
  omega

theorem val_some {s : ByteArray} {n : Int} (h : val s = some n) : -999999 ≤ n ∧ n ≤ 999999 ∧ fmtB n = s := by
  unfold val at h
  split at h
  · rename_i hl
    cases hd : decFrom 0 (mag s.data.toList) with
    | none => rw [hd] at h; cases h
    | some m =>
      rw [hd] at h
      have hm := decFrom_bound hd hl.2
      simp only at h
      split at h
      · rename_i hf
        cases h
        refine ⟨?_, ?_, hf⟩ <;> (unfold sgn; split <;> omega)
      · cases h
  · cases h

theorem fmtB_data (n : Int) : (fmtB n).data.toList = itoa n := by simp [fmtB]

theorem val_fmt (n : Int) (h0 : -999999 ≤ n) (h1 : n ≤ 999999) : val (fmtB n) = some n := by
  by_cases h : n < 0
  · obtain ⟨u, rfl⟩ : ∃ u : Nat, n = -(u : Int) := ⟨n.natAbs, by omega⟩
    have hi : itoa (-(u : Int)) = 45 :: decDigits u := by unfold itoa; rw [if_pos (by omega)]; simp
    have hlen : (decDigits u).length ≤ 6 := by rw [decDigits_length]; exact nDigits_le 6 u (by omega) (by omega)
    obtain ⟨d, r, _, hd⟩ := decDigits_head u
    have hpos : 1 ≤ (decDigits u).length := by rw [hd]; simp
    have hn : negB (45 :: decDigits u) = true := by simp [negB]; omega
    have hm : mag (45 :: decDigits u) = decDigits u := by unfold mag; rw [if_pos hn]; rfl
    unfold val
    rw [fmtB_data, hi, hm, if_pos ⟨hpos, hlen⟩, decFrom_digits]
    have hs : sgn (45 :: decDigits u) u = -(u : Int) := by unfold sgn; rw [if_pos hn]
    simp only [hs, if_true]
  · obtain ⟨u, rfl⟩ : ∃ u : Nat, n = (u : Int) := ⟨n.toNat, by omega⟩
    have hi : itoa (u : Int) = decDigits u := by unfold itoa; rw [if_neg (by omega)]; simp
    have hlen : (decDigits u).length ≤ 6 := by rw [decDigits_length]; exact nDigits_le 6 u (by omega) (by omega)
    obtain ⟨d, r, hd10, hd⟩ := decDigits_head u
    have hpos : 1 ≤ (decDigits u).length := by rw [hd]; simp
    have hne : UInt8.ofNat (48 + d) ≠ 45 := by
      intro e
      have := congrArg UInt8.toNat e
      simp [UInt8.toNat_ofNat'] at this
      omega
    have hn : negB (decDigits u) = false := by
      rw [hd]
      generalize UInt8.ofNat (48 + d) = c at hne
      simp [negB, hne]
    have hm : mag (decDigits u) = decDigits u := by unfold mag; rw [if_neg (by simp [hn])]
    unfold val
    rw [fmtB_data, hi, hm, if_pos ⟨hpos, hlen⟩, decFrom_digits]
    have hs : sgn (decDigits u) u = (u : Int) := by unfold sgn; rw [if_neg (by simp [hn])]
    simp only [hs, if_true]

/-- No text of a number in the range. -/
theorem val_none {s : ByteArray} (h : val s = none) (n : Int) (h0 : -999999 ≤ n) (h1 : n ≤ 999999) : fmtB n ≠ s := by
  intro e
  rw [← e, val_fmt n h0 h1] at h
  cases h

theorem atoi_fmt (n : Int) (h0 : -999999 ≤ n) (h1 : n ≤ 999999) : atoi (itoa n) = some n := by
  by_cases h : n < 0
  · obtain ⟨u, rfl⟩ : ∃ u : Nat, n = -(u : Int) := ⟨n.natAbs, by omega⟩
    have hi : itoa (-(u : Int)) = 45 :: decDigits u := by unfold itoa; rw [if_pos (by omega)]; simp
    obtain ⟨d, r, _, hd⟩ := decDigits_head u
    have hne : (decDigits u).isEmpty = false := by rw [hd]; rfl
    rw [hi]
    simp [atoi, decNat, hne, decFrom_digits]
  · obtain ⟨u, rfl⟩ : ∃ u : Nat, n = (u : Int) := ⟨n.toNat, by omega⟩
    have hi : itoa (u : Int) = decDigits u := by unfold itoa; rw [if_neg (by omega)]; simp
    obtain ⟨d, r, hd10, hd⟩ := decDigits_head u
    have h45 : UInt8.ofNat (48 + d) ≠ 45 := by
      intro e; have := congrArg UInt8.toNat e; simp [UInt8.toNat_ofNat'] at this; omega
    have h43 : UInt8.ofNat (48 + d) ≠ 43 := by
      intro e; have := congrArg UInt8.toNat e; simp [UInt8.toNat_ofNat'] at this; omega
    have hdf := decFrom_digits u
    rw [hi]
    rw [hd] at hdf ⊢
    generalize UInt8.ofNat (48 + d) = c at h45 h43 hdf
    simp [atoi, decNat, h45, h43, hdf]

theorem atoiAll_fmt (n : Int) (h0 : -999999 ≤ n) (h1 : n ≤ 999999) : atoiAll (fmtB n).data.toList = .ok n := by
  have hl : (itoa n).length ≤ 18 := by
    have := fmtB_size n (by omega) (by omega)
    have e : (fmtB n).size = (itoa n).length := by simp [fmtB, ByteArray.size]
    omega
  rw [fmtB_data, atoiAll_short _ hl, atoi_fmt n h0 h1]
  rfl

end Go.Proofs.YtnenaponiahalaaDoor.NumM
