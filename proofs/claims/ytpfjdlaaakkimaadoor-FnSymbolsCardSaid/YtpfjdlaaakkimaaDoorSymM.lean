/- Features turned back, and words that tell a feature: plain lemmas. -/
import Derived.Test.YtpfjdlaaakkimaaDoorPfE
import Derived.Test.YtpfjdlaaakkimaaDoorTrn
import Derived.Test.YtpfjdlaaakkimaaDoorDes
namespace Go.Proofs.YtpfjdlaaakkimaaDoor.SymM
open Go.RowKit Lb TxF PfE
set_option linter.unusedVariables false

def okT (ss : List ByteArray) : Bool := ss.all (fun x => (List.range 4).all fun q => decide (turnW x q ∈ ss) && decide (turnW (turnW x q) ((4 - q) % 4) = x))
theorem okT_of {ss : List ByteArray} (h : okT ss = true) {x : ByteArray} (hx : x ∈ ss) {q : Nat} (hq : q < 4) : turnW x q ∈ ss ∧ turnW (turnW x q) ((4 - q) % 4) = x := by
  have := List.all_eq_true.1 (List.all_eq_true.1 h x hx) q (List.mem_range.2 hq)
  simpa only [Bool.and_eq_true, decide_eq_true_eq] using this
theorem turn_nil (q : Nat) : turnW ⟨#[]⟩ q = ⟨#[]⟩ := turnW_none q (by decide)
theorem turn_two {x : ByteArray} (h : x ∈ dirs ∨ x ∉ dirs) {q : Nat} (hq : q < 4) : turnW (turnW x q) ((4 - q) % 4) = x := by
  rcases h with h | h
  · exact (okT_of (ss := dirs) (by decide +kernel) h hq).2
  · rw [turnW_none q h, turnW_none _ h]
theorem turn_btw {x : ByteArray} {q : Nat} (hq : q < 4) (h : turnW x q = between) : x = between := by
  by_cases hx : x ∈ dirs
  · have := (okT_of (ss := dirs) (by decide +kernel) hx hq).1
    rw [h] at this
    exact absurd this (by decide)
  · rwa [turnW_none q hx] at h
theorem ok_turn {f : Ft} (h : OkF f) {k : Nat} (hk : k < 4) : OkF (f.turn k) := by
  obtain ⟨h0, h1, h2, h3, h4, h5⟩ := h
  have hs : ∀ i, i < 5 → okT (famS i) = true := by decide +kernel
  refine ⟨h0, h1, ?_, h3, ?_, ?_⟩
  · show turnW f.wh k = ⟨#[]⟩ ∨ turnW f.wh k ∈ whichs
    rcases h2 with e | e
    · rw [e]; exact .inl (turn_nil k)
    · exact .inr (okT_of (ss := whichs) (by decide +kernel) e hk).1
  · show turnW f.sd k = between → turnW f.wh k = ⟨#[]⟩
    intro e
    rw [h4 (turn_btw hk e)]
    exact turn_nil k
  · show turnW f.sd k = ⟨#[]⟩ ∨ turnW f.sd k ∈ famS (fam f.wt)
    rcases h5 with e | e
    · rw [e]; exact .inl (turn_nil k)
    · exact .inr (okT_of (hs _ h0) e hk).1
theorem turn_back (f : Ft) {k : Nat} (hk : k < 4) : (f.turn k).turn ((4 - k) % 4) = f := by
  unfold Ft.turn
  simp only [turn_two (Decidable.em _) hk]

/-- A feature with another one's code. -/
def Ft.code (f g : Ft) : Ft := ⟨g.c, f.wh, f.wt, f.lk, f.sd⟩
theorem same_iff {f g : Ft} (hf : OkF f) (hg : OkF g) : txF f = txF g ↔ Ft.code f g = g := by
  have h' : OkF (Ft.code f g) := ⟨hf.1, hg.2.1, hf.2.2⟩
  constructor
  · intro e
    have e1 : cod (Ft.code f g) ++ txF (Ft.code f g) = cod g ++ txF g := by
      show cod g ++ txF f = _
      rw [e]
    have := canS_text h'
    rw [e1, canS_text hg] at this
    exact this.symm
  · intro e
    show txF (Ft.code f g) = _
    rw [e]
theorem same_yes {f g : Ft} (h : Des.known f g = true) (e : Ft.code f g = g) : Des.same f g = true := by
  unfold Des.known at h
  unfold Des.same
  rw [h]
  simp only [Bool.and_eq_true] at h
  rw [(same_iff (of_decide_eq_true h.1) (of_decide_eq_true h.2)).2 e]
  simp
theorem same_no {f g : Ft} (h : Des.known f g = true) (e : ¬ Ft.code f g = g) : Des.same f g = false := by
  unfold Des.known at h
  unfold Des.same
  rw [h]
  simp only [Bool.and_eq_true] at h
  have h1 : ¬ txF f = txF g := fun k => e ((same_iff (of_decide_eq_true h.1) (of_decide_eq_true h.2)).1 k)
  have h2 : ((txF f).toList == (txF g).toList) = false := by
    simp only [beq_eq_false_iff_ne, ne_eq]
    exact fun k => h1 (toList_inj k)
  rw [h2]
  rfl
theorem back_ok {f : Ft} (h : OkF f) : PfI.okI (tx f) = true ∧ PfI.ansI (tx f) = f := by
  obtain ⟨h1, _, h2, _⟩ := yes_both h
  refine ⟨h1, ?_⟩
  unfold PfI.ansI
  rw [if_pos h1]
  exact h2

end Go.Proofs.YtpfjdlaaakkimaaDoor.SymM
