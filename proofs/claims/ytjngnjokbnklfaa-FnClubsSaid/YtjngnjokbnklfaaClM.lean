/- Ascending lists of texts: plain lemmas. -/
import Derived.Test.YtjngnjokbnklfaaRuM
import Derived.Sort.Walk0
import Derived.Shelf.Spec.SearchS
namespace Go.Proofs.Ytjngnjokbnklfaa.ClM
open Go.RowKit Lb
set_option linter.unusedSimpArgs false
set_option linter.unusedVariables false

/-- The order of texts. -/
def ltB (a b : ByteArray) : Bool := Op.bytesLess a.toList b.toList
theorem ltB_iff {a b : ByteArray} : ltB a b = true ↔ a.toList < b.toList := by unfold ltB; rw [bytesLess_eq]; simp
theorem ltB_irrefl (a : ByteArray) : ltB a a = false := by
  cases h : ltB a a with
  | false => rfl
  | true => exact absurd (ltB_iff.1 h) (List.lt_irrefl _)
theorem ltB_trans {a b c : ByteArray} (h : ltB a b = true) (k : ltB b c = true) : ltB a c = true := ltB_iff.2 (List.lt_trans (ltB_iff.1 h) (ltB_iff.1 k))
theorem eq_of_toList {a b : ByteArray} (h : a.toList = b.toList) : a = b := by
  rw [Lib.toList_data, Lib.toList_data] at h
  cases a with
  | mk x => cases b with
    | mk y => exact congrArg ByteArray.mk (Array.toList_inj.1 h)
theorem ltB_tri {a b : ByteArray} (h : ltB a b = false) (k : ltB b a = false) : a = b := by
  refine eq_of_toList (List.le_antisymm (fun hh => ?_) (fun hh => ?_))
  · have := ltB_iff.2 hh; rw [this] at k; cases k
  · have := ltB_iff.2 hh; rw [this] at h; cases h

/-- The place of a text: how many at the head are below it. -/
def plc (cs : List ByteArray) (c : ByteArray) : Nat := cs.findIdx (fun x => !ltB x c)
theorem plc_le (cs : List ByteArray) (c : ByteArray) : plc cs c ≤ cs.length := List.findIdx_le_length
theorem plc_lt {cs : List ByteArray} {c : ByteArray} {j : Nat} (h : j < plc cs c) : ltB (cs.getD j c) c = true := by
  have hl : j < cs.length := Nat.lt_of_lt_of_le h (plc_le cs c)
  have := List.not_of_lt_findIdx h
  simpa [hl] using this
theorem plc_at {cs : List ByteArray} {c : ByteArray} (h : plc cs c < cs.length) : ltB (cs.getD (plc cs c) c) c = false := by
  have h1 := List.findIdx_getElem (w := h)
  unfold plc at h ⊢
  simpa [h] using h1
theorem plc_unique {cs : List ByteArray} {c : ByteArray} {k : Nat} (hk : k ≤ cs.length) (h1 : ∀ j, j < k → ltB (cs.getD j c) c = true) (h2 : k < cs.length → ltB (cs.getD k c) c = false) : plc cs c = k := by
  rcases Nat.lt_trichotomy (plc cs c) k with h | h | h
  · have a := plc_at (cs := cs) (c := c) (by omega)
    rw [h1 _ h] at a
    cases a
  · exact h
  · have a := plc_lt h
    have hl : k < cs.length := Nat.lt_of_lt_of_le h (plc_le cs c)
    rw [h2 hl] at a
    cases a

/-- Ascending, each once. -/
def SAsc (cs : List ByteArray) : Prop := cs.Pairwise (fun a b => ltB a b = true)
theorem SAsc.get {cs : List ByteArray} (h : SAsc cs) {i j : Nat} (c : ByteArray) (hij : i < j) (hj : j < cs.length) : ltB (cs.getD i c) (cs.getD j c) = true := by
  have := List.pairwise_iff_getElem.1 h i j (by omega) hj hij
  simpa [hj, show i < cs.length by omega] using this
theorem SAsc.after {cs : List ByteArray} (h : SAsc cs) {c : ByteArray} {t : Nat} (ht : plc cs c ≤ t) (hl : t < cs.length) : ltB (cs.getD t c) c = false := by
  have hp := plc_at (cs := cs) (c := c) (by omega)
  rcases Nat.lt_or_ge (plc cs c) t with h1 | h1
  · cases h2 : ltB (cs.getD t c) c with
    | false => rfl
    | true =>
      have := ltB_trans (h.get c h1 hl) h2
      rw [hp] at this
      cases this
  · obtain rfl : t = plc cs c := by omega
    exact hp
/-- Whether a text is there. -/
def hasB (cs : List ByteArray) (c : ByteArray) : Bool := decide (plc cs c < cs.length ∧ cs.getD (plc cs c) c = c)
/-- With a text in its place, once. -/
def insC (cs : List ByteArray) (c : ByteArray) : List ByteArray := if hasB cs c then cs else cs.take (plc cs c) ++ [c] ++ cs.drop (plc cs c)
theorem ins_len (cs : List ByteArray) (c : ByteArray) : (insC cs c).length ≤ cs.length + 1 := by
  unfold insC
  have := plc_le cs c
  split
  · omega
  · simp only [List.length_append, List.length_take, List.length_drop, List.length_cons, List.length_nil]; omega
theorem ins_asc {cs : List ByteArray} (h : SAsc cs) (c : ByteArray) : SAsc (insC cs c) := by
  unfold insC
  split
  · exact h
  · rename_i hn
    have hp := plc_le cs c
    have below : ∀ x, x ∈ cs.take (plc cs c) → ltB x c = true := by
      intro x hx
      obtain ⟨j, hj, rfl⟩ := List.mem_iff_getElem.1 hx
      rw [List.length_take] at hj
      have := plc_lt (cs := cs) (c := c) (j := j) (by omega)
      rw [List.getElem_take]
      simpa [show j < cs.length by omega] using this
    have above : ∀ x, x ∈ cs.drop (plc cs c) → ltB c x = true := by
      intro x hx
      obtain ⟨j, hj, rfl⟩ := List.mem_iff_getElem.1 hx
      rw [List.length_drop] at hj
      rw [List.getElem_drop]
      have hjl : plc cs c + j < cs.length := by omega
      have h1 := h.after (c := c) (t := plc cs c + j) (by omega) hjl
      cases h2 : ltB c cs[plc cs c + j] with
      | true => rfl
      | false =>
        exfalso
        have e : cs.getD (plc cs c + j) c = cs[plc cs c + j] := by simp [hjl]
        rw [e] at h1
        have e2 := ltB_tri h1 h2
        apply hn
        unfold hasB
        refine decide_eq_true ⟨by omega, ?_⟩
        rcases Nat.eq_zero_or_pos j with h0 | h0
        · subst h0
          simp only [Nat.add_zero] at e e2
          exact e.trans e2
        · have h3 := h.get c (i := plc cs c) (j := plc cs c + j) (by omega) hjl
          rw [e, e2, plc_at (by omega)] at h3
          cases h3
    unfold SAsc
    rw [List.pairwise_append, List.pairwise_append]
    refine ⟨⟨List.Pairwise.sublist (List.take_sublist _ _) h, List.pairwise_singleton _ _, fun a ha b hb => ?_⟩, List.Pairwise.sublist (List.drop_sublist _ _) h, fun a ha b hb => ?_⟩
    · obtain rfl : b = c := by simpa using hb
      exact below a ha
    · rcases List.mem_append.1 ha with h1 | h1
      · exact ltB_trans (below a h1) (above b hb)
      · obtain rfl : a = c := by simpa using h1
        exact above b hb

/-- The clubs of a list. -/
def clubL (rs : List Ru) : List ByteArray := rs.foldl (fun cs r => insC cs r.cl) []
theorem club_take {rs : List Ru} {k : Nat} (hk : k < rs.length) : clubL (rs.take (k + 1)) = insC (clubL (rs.take k)) (RuK.at_ rs k).cl := by
  unfold clubL
  rw [List.take_succ_eq_append_getElem hk, List.foldl_append, ← RuK.at_lt hk]
  rfl
theorem club_len : ∀ (k : Nat) (rs : List Ru), (clubL (rs.take k)).length ≤ k
  | 0, rs => by simp [clubL]
  | k + 1, rs => by
    rcases Nat.lt_or_ge k rs.length with h | h
    · rw [club_take h]
      have h1 := ins_len (clubL (rs.take k)) (RuK.at_ rs k).cl
      have h2 := club_len k rs
      omega
    · have h2 := club_len k rs
      rw [List.take_of_length_le (by omega)] at h2 ⊢
      omega
theorem club_asc : ∀ (k : Nat) (rs : List Ru), SAsc (clubL (rs.take k))
  | 0, rs => by simp [clubL, SAsc]
  | k + 1, rs => by
    rcases Nat.lt_or_ge k rs.length with h | h
    · rw [club_take h]
      exact ins_asc (club_asc k rs) _
    · have h2 := club_asc k rs
      rw [List.take_of_length_le (by omega)] at h2 ⊢
      exact h2

/-- The halving's answer. -/
theorem bs_place {cs : List ByteArray} (h : SAsc cs) (c : ByteArray) : Lib.bsGo (fun t => ltB (cs.getD t c) c) cs.length 0 cs.length = plc cs c :=
  Lib.bsGo_spec _ (plc cs c) (fun t ht => plc_lt ht) (fun t ht => by
    show ltB (cs.getD t c) c = false
    rcases Nat.lt_or_ge t cs.length with h1 | h1
    · exact h.after ht h1
    · rw [List.getD_eq_getElem?_getD, List.getElem?_eq_none h1]
      exact ltB_irrefl c) cs.length 0 cs.length (by omega) (Nat.zero_le _) (plc_le cs c)
end Go.Proofs.Ytjngnjokbnklfaa.ClM
