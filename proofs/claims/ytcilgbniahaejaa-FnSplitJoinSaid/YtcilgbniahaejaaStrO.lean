/- A list of strings that came in: what its reading says. -/
import Derived.Test.YtcilgbniahaejaaProg
import Derived.Test.YtcilgbniahaejaaLib
import Derived.ProofKit
import Derived.OpenShut
import Derived.Deep.Strs
namespace Go.Proofs.Ytcilgbniahaejaa.StrO
open Go.ChangeShapes Go.WideShapes Go.ChangeAt Go.RowKit Go.Deep Lb

/-- A list of strings in memory, each within bounds. -/
def IsStrs (W : World) (a : Option Addr) (cap : Nat) (ss : List ByteArray) : Prop :=
  StrRow W a ss ∧ ss.length ≤ cap ∧ cap ≤ maxLen ∧ ∀ k, (sAt ss k).size ≤ maxLen

theorem open_strs' {P : Program} {H : Type} {enc : TypeId × Value → H} {W : World} {r : Reach} {b0 base : Nat} {spare : Nat → Bool} {held : Bool} {t e : TypeId} {v : Value} {d : DataW H} {p : List MemPlace} (ht : P.underlying t = some (.slice e)) (he : P.underlying e = some .string) (hc : P.cellsOf e = 1)
    (hv : Value.okWide P W r b0 t v) (h : DataW.Trod enc P W base spare held t v d p) :
    ∃ (a : Option Addr) (cap : Nat) (ss : List ByteArray), v = .slice a ss.length cap ∧ IsStrs W a cap ss := by
  obtain ⟨a, len, cap, rfl⟩ := okWide_slice ht hv
  obtain ⟨fuel, hf⟩ := h
  rcases open_strs ht he hc hf with ⟨hcs, _⟩ | ⟨x, l, c, m, Sx, hcs, _, hl, hm, hmm, _, hcell⟩
  · simp [Value.cells] at hcs
    obtain ⟨rfl, rfl, rfl⟩ := hcs
    exact ⟨none, 0, [], rfl, .inl rfl, by simp, by unfold maxLen; omega, fun k => by simp [sAt]⟩
  · simp [Value.cells] at hcs
    obtain ⟨rfl, rfl, rfl⟩ := hcs
    have hlm : len ≤ m := by rw [hmm]; split <;> omega
    have hs : ∀ k, k < len → sAt ((List.range len).map Sx) k = Sx k := fun k hk => by simp [sAt, hk]
    refine ⟨some x, cap, (List.range len).map Sx, by simp, RowAt.of_add ?_, by simpa using hl, hm, fun k => ?_⟩
    · intro k hk
      have hk' : k < len := by simpa using hk
      rw [hs k hk']
      exact (hcell k (by omega)).1
    · by_cases hk : k < len
      · rw [hs k hk]; exact (hcell k (by omega)).2
      · simp [sAt, List.getD, List.getElem?_eq_none (l := (List.range len).map Sx) (by simpa using hk)]

end Go.Proofs.Ytcilgbniahaejaa.StrO
