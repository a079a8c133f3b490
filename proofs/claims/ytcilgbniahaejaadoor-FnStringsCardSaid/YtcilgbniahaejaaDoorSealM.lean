/- Sealed strings: plain lemmas. -/
import Derived.Test.YtcilgbniahaejaaDoorSplM
import Derived.Test.YtcilgbniahaejaaDoorCkMath
import Derived.Test.YtcilgbniahaejaaDoorFmt
import Derived.Lib.IndexBytes
import Derived.Lib.IndexLaws
import Derived.Lib.IndexMore
namespace Go.Proofs.YtcilgbniahaejaaDoor.SealM
open Go.RowKit Lb Fmt

/-- A text, the mark, and the decimal text of its sum. -/
def sealB (t : ByteArray) : ByteArray := t ++ ⟨#[35]⟩ ++ fmtB (Ck.sum t.data.toList)

/-- What AppendChecksum answers. -/
def appR (t : ByteArray) : Option ByteArray := if t.size ≤ 4000 ∧ hasB t 35 = false ∧ (sealB t).size ≤ 4000 then some (sealB t) else none

theorem fmt_size (t : ByteArray) : (fmtB (Ck.sum t.data.toList)).size ≤ 8 := by
  have := Ck.sum_bd t.data.toList
  exact fmtB_size _ (by omega) (by omega)

theorem seal_size (t : ByteArray) : (sealB t).size = t.size + 1 + (fmtB (Ck.sum t.data.toList)).size := by
  unfold sealB
  rw [ByteArray.size_append, ByteArray.size_append]
  rfl

/-- What stands before the first mark. -/
def before (s : ByteArray) : ByteArray := sAt (parts s 35) 0

/-- What VerifyChecksum answers. -/
def verR (s : ByteArray) : Option ByteArray := if s.size ≤ 4000 ∧ sealB (before s) = s then some (before s) else none

theorem cut_none {s : ByteArray} {c : UInt8} (h : hasB s c = false) : ∀ k, k ≤ s.size → cut s c k = (0, [])
  | 0, _ => rfl
  | k + 1, hk => by rw [cut_miss (by omega) (hasB_no h k (by omega)), cut_none h k (by omega)]

theorem cut_first {s : ByteArray} {c : UInt8} {j : Nat} (hj : j < s.size) (hc : s[j] = c) (hb : ∀ i, i < j → ∀ (h : i < s.size), s[i] ≠ c) :
    ∀ k, j < k → k ≤ s.size → ∃ r, (cut s c k).2 = s.extract 0 j :: r := by
  have h0 : ∀ i, i ≤ j → cut s c i = (0, []) := by
    intro i
    induction i with
    | zero => intro _; rfl
    | succ i ih => intro hi; rw [cut_miss (by omega) (hb i (by omega) (by omega)), ih (by omega)]
  intro k
  induction k with
  | zero => intro h; omega
  | succ k ih =>
    intro h1 h2
    by_cases e : k = j
    · subst e
      exact ⟨[], by rw [cut_hit hj hc, h0 k (Nat.le_refl _)]; rfl⟩
    · obtain ⟨r, hr⟩ := ih (by omega) (by omega)
      by_cases he : s[k] = c
      · exact ⟨r ++ [s.extract (cut s c k).1 k], by rw [cut_hit (by omega) he, hr]; rfl⟩
      · exact ⟨r, by rw [cut_miss (by omega) he, hr]⟩

theorem before_none {s : ByteArray} (h : hasB s 35 = false) : before s = s := by
  unfold before parts
  rw [cut_none h s.size (Nat.le_refl _)]
  simp [sAt]

theorem before_first {s : ByteArray} {j : Nat} (hj : j < s.size) (hc : s[j] = 35) (hb : ∀ i, i < j → ∀ (h : i < s.size), s[i] ≠ 35) : before s = s.extract 0 j := by
  obtain ⟨r, hr⟩ := cut_first hj hc hb s.size hj (Nat.le_refl _)
  unfold before parts
  rw [hr]
  simp [sAt]

theorem first_mark {s : ByteArray} {c : UInt8} (h : hasB s c = true) : ∃ j, ∃ hj : j < s.size, s[j] = c ∧ ∀ i, i < j → ∀ (h : i < s.size), s[i] ≠ c := by
  obtain ⟨q, hq, hbef, hat⟩ := first_of (n := s.size) (p := fun i => ∀ (h : i < s.size), s[i] ≠ c) (fun hn => by
    rw [hasB_none (fun i hi => hn i hi hi)] at h; cases h)
  refine ⟨q, hq, ?_, hbef⟩
  by_cases e : s[q] = c
  · exact e
  · exact absurd (fun _ => e) hat

theorem index_mark {s : ByteArray} {j : Nat} (hj : j < s.size) (hc : s[j] = 35) (hb : ∀ i, i < j → ∀ (h : i < s.size), s[i] ≠ 35) : Lib.index s.data.toList [35] = (j : Int) := by
  rw [Lib.index_one]
  have hge := Lib.indexByte_ge s.data.toList 35
  have hjs : s.data.toList[j]? = some 35 := by
    rw [List.getElem?_eq_getElem (by simpa using hj)]; exact congrArg some hc
  by_cases hm : Lib.indexByte s.data.toList 35 = -1
  · exact absurd hjs (Lib.indexByte_none hm j)
  · obtain ⟨o, ho⟩ : ∃ o : Nat, Lib.indexByte s.data.toList 35 = o := ⟨(Lib.indexByte s.data.toList 35).toNat, by omega⟩
    obtain ⟨h1, h2⟩ := Lib.indexByte_some ho
    rw [ho]
    have hol : o < s.size := by
      have := (List.getElem?_eq_some_iff.1 h1).1
      simpa using this
    have h3 : s[o] = 35 := by
      have := (List.getElem?_eq_some_iff.1 h1).2
      exact this
    rcases Nat.lt_trichotomy o j with h | h | h
    · exact absurd h3 (hb o h hol)
    · rw [h]
    · exact absurd hjs (h2 j h)

theorem index_none {s : ByteArray} (h : hasB s 35 = false) : Lib.index s.data.toList [35] = -1 := by
  rw [Lib.index_one]
  have hge := Lib.indexByte_ge s.data.toList 35
  by_cases hm : Lib.indexByte s.data.toList 35 = -1
  · exact hm
  · obtain ⟨o, ho⟩ : ∃ o : Nat, Lib.indexByte s.data.toList 35 = o := ⟨(Lib.indexByte s.data.toList 35).toNat, by omega⟩
    obtain ⟨h1, _⟩ := Lib.indexByte_some ho
    have hol : o < s.size := by
      have := (List.getElem?_eq_some_iff.1 h1).1
      simpa using this
    exact absurd (List.getElem?_eq_some_iff.1 h1).2 (hasB_no h o hol)

theorem byte_index (s : ByteArray) : decide (0 ≤ Lib.indexByte s.data.toList 35) = hasB s 35 := by
  cases h : hasB s 35 with
  | false =>
    have := index_none h
    rw [Lib.index_one] at this
    rw [this]; rfl
  | true =>
    obtain ⟨j, hj, hc, hb⟩ := first_mark h
    have := index_mark hj hc hb
    rw [Lib.index_one] at this
    rw [this]
    simp

theorem hasB_before (s : ByteArray) : hasB (before s) 35 = false := by
  cases h : hasB s 35 with
  | false => rw [before_none h]; exact h
  | true =>
    obtain ⟨j, hj, hc, hb⟩ := first_mark h
    rw [before_first hj hc hb]
    apply hasB_none
    intro i hi
    have hs : i < j := by rw [ByteArray.size_extract] at hi; omega
    have e : (s.extract 0 j)[i] = s[i]'(by omega) := by
      rw [ByteArray.getElem_extract]
      simp
    rw [e]
    exact hb i hs (by omega)

theorem cut_yes {s : ByteArray} (h : hasB s 35 = true) : (⟨(Lib.cut s.data.toList [35]).1.toArray⟩ : ByteArray) = before s ∧ (Lib.cut s.data.toList [35]).2.2 = true := by
  obtain ⟨j, hj, hc, hb⟩ := first_mark h
  have hi := index_mark hj hc hb
  unfold Lib.cut
  rw [hi, if_pos (by omega), before_first hj hc hb]
  refine ⟨?_, rfl⟩
  apply toList_inj
  rw [ByteArray.toList_eq, ByteArray.toList_eq, Lib.extract_data]
  simp

theorem cut_no {s : ByteArray} (h : hasB s 35 = false) : (Lib.cut s.data.toList [35]).2.2 = false := by
  unfold Lib.cut
  rw [index_none h, if_neg (by omega)]

/-- Without a mark nothing verifies. -/
theorem ver_none {s : ByteArray} (h : hasB s 35 = false) : verR s = none := by
  unfold verR
  rw [before_none h, if_neg]
  rintro ⟨_, e⟩
  have := congrArg ByteArray.size e
  rw [seal_size] at this
  omega

theorem before_le (s : ByteArray) : (before s).size ≤ s.size := by
  cases h : hasB s 35 with
  | false => rw [before_none h]; exact Nat.le_refl _
  | true =>
    obtain ⟨j, hj, hc, hb⟩ := first_mark h
    rw [before_first hj hc hb, ByteArray.size_extract]; omega

/-- The program's road: seal what stands before the mark, and compare. -/
theorem ver_app (s : ByteArray) : verR s = (match appR (before s) with | some y => if y = s then some (before s) else none | none => none) := by
  have hle := before_le s
  have hb := hasB_before s
  unfold verR appR
  by_cases h1 : s.size ≤ 4000 ∧ sealB (before s) = s
  · rw [if_pos h1, if_pos ⟨by omega, hb, by rw [h1.2]; exact h1.1⟩]
    simp only
    rw [if_pos h1.2]
  · rw [if_neg h1]
    by_cases h2 : (before s).size ≤ 4000 ∧ hasB (before s) 35 = false ∧ (sealB (before s)).size ≤ 4000
    · rw [if_pos h2]
      simp only
      rw [if_neg]
      intro e
      exact h1 ⟨by rw [← e]; exact h2.2.2, e⟩
    · rw [if_neg h2]

end Go.Proofs.YtcilgbniahaejaaDoor.SealM
