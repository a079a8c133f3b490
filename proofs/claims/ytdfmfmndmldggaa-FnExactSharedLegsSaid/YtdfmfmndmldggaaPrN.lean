/- Lists of IntA2 as what is appended: plain lemmas. -/
import Derived.Test.YtdfmfmndmldggaaPrM
import Derived.Maps.AppendAt
namespace Go.Proofs.Ytdfmfmndmldggaa.PrK
open Go.RowKit Lb Bk
set_option linter.unusedSimpArgs false
set_option linter.unusedVariables false

theorem cells_one : ∀ (rs : List Pr) (u : Value), u ∈ cells rs → u.oneCell' = true
  | [], u, h => by simp [cells] at h
  | f :: r, u, h => by
    simp only [cells, List.mem_cons] at h
    rcases h with rfl | rfl | h
    · rfl
    · rfl
    · exact cells_one r u h
theorem add_none (b o j : Nat) : (⟨b, o, none⟩ : Addr).add j = ⟨b, o + j, none⟩ := by unfold Addr.add; split <;> simp_all
theorem Row.news {w : World} {ad : Addr} {rs : List Pr} (H : Row w (some ad) rs) : ∀ j u, (PrK.cells rs)[j]? = some u → w.cell? (ad.add j) = some u := by
  intro j u h
  have hj : j < rs.length * 2 := by
    have := (List.getElem?_eq_some_iff.1 h).1
    rwa [cells_len] at this
  rcases H with h0 | ⟨b, off, e, hc⟩
  · omega
  · cases e
    rw [add_none]
    have h1 := hc (j / 2) (by omega) (j % 2) (by omega)
    have h2 := cells_at rs (j / 2) (by omega) (j % 2) (by omega)
    rw [show j / 2 * 2 + j % 2 = j by omega] at h2
    rw [show off + j / 2 * 2 + j % 2 = off + j by omega] at h1
    rw [h1]
    rw [h2] at h
    exact h
theorem drop_at (rs : List Pr) (k i : Nat) : at_ (rs.drop k) i = at_ rs (k + i) := by
  unfold at_
  rw [List.getD_eq_getElem?_getD, List.getD_eq_getElem?_getD, List.getElem?_drop]
theorem Row.drop {w : World} {b off : Nat} {rs : List Pr} (H : Row w (some ⟨b, off, none⟩) rs) (k : Nat) : Row w (some ⟨b, off + k * 2, none⟩) (rs.drop k) := by
  rcases H with h0 | ⟨b', off', e, hc⟩
  · exact .inl (by rw [List.length_drop]; omega)
  · cases e
    refine .inr ⟨b, off + k * 2, rfl, fun i hi j hj => ?_⟩
    rw [List.length_drop] at hi
    rw [drop_at, show off + k * 2 + i * 2 + j = off + (k + i) * 2 + j by omega]
    exact hc (k + i) (by omega) j hj
theorem Own.cat {w : World} {base n m : Nat} {v : Value} {rs qs : List Pr} (hn : rs.length = n) (hm : qs.length = m) (h : w.ownsRow base 88 2 v (n + m) (cells rs ++ cells qs)) : Own w base v (rs ++ qs) := by
  unfold Own
  rw [List.length_append, hn, hm, cells_cat]
  exact h
theorem Own.empty (w : World) : Own (w.alloc (.cells #[] 88)) w.heap.size (.slice (some ⟨w.heap.size, 0, none⟩) 0 0) [] := World.ownsRow_made w #[] 0 (Nat.le_refl _) (Nat.zero_le _) rfl
end Go.Proofs.Ytdfmfmndmldggaa.PrK
