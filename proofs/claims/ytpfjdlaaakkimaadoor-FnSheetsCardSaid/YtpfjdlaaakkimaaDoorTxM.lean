/- Features' words: plain lemmas. -/
import Derived.Test.YtpfjdlaaakkimaaDoorFtM
namespace Go.Proofs.YtpfjdlaaakkimaaDoor.Lb
open Go.RowKit
set_option linter.unusedVariables false

/-- A word with a space ahead, if it is not empty. -/
def w1 (x : ByteArray) : ByteArray := if x = ⟨#[]⟩ then ⟨#[]⟩ else (⟨#[32]⟩ : ByteArray) ++ x
def sdW (x : ByteArray) : ByteArray := if x = ⟨#[]⟩ then ⟨#[]⟩ else (⟨#[32, 115, 105, 100, 101, 32]⟩ : ByteArray) ++ x
/-- The words behind the code. -/
def txF (f : Ft) : ByteArray := w1 f.wh ++ (w1 f.lk ++ (w1 f.wt ++ sdW f.sd))

theorem nil_app (b : ByteArray) : (⟨#[]⟩ : ByteArray) ++ b = b := by
  apply ByteArray.ext
  simp
theorem app_nil (b : ByteArray) : b ++ (⟨#[]⟩ : ByteArray) = b := by
  apply ByteArray.ext
  simp
theorem app_assoc (a b c : ByteArray) : a ++ b ++ c = a ++ (b ++ c) := by
  apply ByteArray.ext
  simp [Array.append_assoc]
theorem w1_nil {x : ByteArray} (h : x = ⟨#[]⟩) : w1 x = ⟨#[]⟩ := if_pos h
theorem w1_ne {x : ByteArray} (h : ¬ x = ⟨#[]⟩) : w1 x = (⟨#[32]⟩ : ByteArray) ++ x := if_neg h
theorem sdW_nil {x : ByteArray} (h : x = ⟨#[]⟩) : sdW x = ⟨#[]⟩ := if_pos h
theorem sdW_ne {x : ByteArray} (h : ¬ x = ⟨#[]⟩) : sdW x = (⟨#[32, 115, 105, 100, 101, 32]⟩ : ByteArray) ++ x := if_neg h

/-- Short words, and one that is not empty. -/
structure ShF (f : Ft) : Prop where
  wh : f.wh.size ≤ 9
  wt : f.wt.size ≤ 9
  lk : f.lk.size ≤ 9
  sd : f.sd.size ≤ 9
  ne : ¬ f.wt = ⟨#[]⟩

theorem short_of {ss : List ByteArray} (hs : ∀ k, k < ss.length → (sAt ss k).size ≤ 9 ∧ sAt ss k ≠ ⟨#[]⟩) {x : ByteArray} (h : x ∈ ss) : x.size ≤ 9 ∧ x ≠ ⟨#[]⟩ := by
  obtain ⟨j, hj, rfl⟩ := mem_sAt.1 h
  exact hs j hj
theorem fam_mem {x : ByteArray} (h : fam x < 5) : x ∈ famW (fam x) := by
  by_cases h0 : x ∈ famW 0
  · rw [show fam x = 0 from by unfold fam; rw [if_pos h0]]; exact h0
  by_cases h1 : x ∈ famW 1
  · rw [show fam x = 1 from by unfold fam; rw [if_neg h0, if_pos h1]]; exact h1
  by_cases h2 : x ∈ famW 2
  · rw [show fam x = 2 from by unfold fam; rw [if_neg h0, if_neg h1, if_pos h2]]; exact h2
  by_cases h3 : x ∈ famW 3
  · rw [show fam x = 3 from by unfold fam; rw [if_neg h0, if_neg h1, if_neg h2, if_pos h3]]; exact h3
  by_cases h4 : x ∈ famW 4
  · rw [show fam x = 4 from by unfold fam; rw [if_neg h0, if_neg h1, if_neg h2, if_neg h3, if_pos h4]]; exact h4
  · exact absurd h (by unfold fam; rw [if_neg h0, if_neg h1, if_neg h2, if_neg h3, if_neg h4]; decide)
def allShort (ss : List ByteArray) : Bool := ss.all fun x => decide (x.size ≤ 9) && !decide (x.size = 0)
theorem short_all {ss : List ByteArray} (h : allShort ss = true) {x : ByteArray} (hx : x ∈ ss) : x.size ≤ 9 ∧ ¬ x = ⟨#[]⟩ := by
  have := List.all_eq_true.1 h x hx
  simp only [Bool.and_eq_true, decide_eq_true_eq, Bool.not_eq_true', decide_eq_false_iff_not] at this
  exact ⟨this.1, fun e => this.2 (by rw [e]; rfl)⟩
theorem OkF.short {f : Ft} (h : OkF f) : ShF f := by
  obtain ⟨h0, h1, h2, h3, h4, h5⟩ := h
  have hf : ∀ i, i < 5 → allShort (famW i) = true := by decide
  have hs : ∀ i, i < 5 → allShort (famS i) = true := by decide
  have hwt := short_all (hf _ h0) (fam_mem h0)
  refine ⟨?_, hwt.1, ?_, ?_, hwt.2⟩
  · rcases h2 with e | e
    · rw [e]; decide
    · exact (short_all (by decide) e).1
  · rcases h3 with e | e
    · rw [e]; decide
    · exact (short_all (by decide) e).1
  · rcases h5 with e | e
    · rw [e]; decide
    · exact (short_all (hs _ h0) e).1
theorem txF_size {f : Ft} (h : ShF f) : (txF f).size ≤ 46 := by
  have hw : ∀ x : ByteArray, (w1 x).size ≤ x.size + 1 := fun x => by
    unfold w1; split
    · exact Nat.zero_le _
    · rw [ByteArray.size_append]; have : (⟨#[32]⟩ : ByteArray).size = 1 := rfl; omega
  have hd : ∀ x : ByteArray, (sdW x).size ≤ x.size + 6 := fun x => by
    unfold sdW; split
    · exact Nat.zero_le _
    · rw [ByteArray.size_append]; have : (⟨#[32, 115, 105, 100, 101, 32]⟩ : ByteArray).size = 6 := rfl; omega
  unfold txF
  rw [ByteArray.size_append, ByteArray.size_append, ByteArray.size_append]
  have h1 := hw f.wh; have h2 := hw f.lk; have h3 := hw f.wt; have h4 := hd f.sd
  obtain ⟨b1, b2, b3, b4, _⟩ := h
  omega

end Go.Proofs.YtpfjdlaaakkimaaDoor.Lb
