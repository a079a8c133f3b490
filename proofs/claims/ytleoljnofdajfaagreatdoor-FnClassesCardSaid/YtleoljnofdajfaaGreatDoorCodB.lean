/- A list of bytes that came in, and the reader that a drawing makes of it. -/
import Derived.Test.YtleoljnofdajfaaGreatDoorCurP
import Derived.ProofKit
import Derived.OpenShut
import Derived.ChangeSlices
import Derived.WideShapes
namespace Go.Proofs.YtleoljnofdajfaaGreatDoor.CodB
open Go.ChangeShapes Go.WideShapes Go.ChangeAt Go.RowKit Lb Cur
set_option linter.unusedVariables false

def Bytes (w : World) (a : Option Addr) (n : Nat) (xs : Nat → Nat) : Prop :=
  n ≤ maxLen ∧ RowAt w a n (fun k => .int .u8 (xs k)) ∧ (∀ k, xs k ≤ 255) ∧ ∀ x, a = some x → x.block < w.heap.size
theorem Bytes.below {w w' : World} {a : Option Addr} {n : Nat} {xs : Nat → Nat} (h : Bytes w a n xs) (hb : Below w.heap.size w w') : Bytes w' a n xs := by
  obtain ⟨h1, h2, h3, h4⟩ := h
  exact ⟨h1, h2.below hb, h3, fun x e => Nat.lt_of_lt_of_le (h4 x e) hb.size⟩
/-- The reader that a drawing makes. -/
theorem begin_ {w : World} {a : Option Addr} {n : Nat} {xs : Nat → Nat} (h : Bytes w a n xs) (cap : Nat) :
    Ok (w.alloc (.cells #[.slice a n cap, .int .i64 0, .int .u64 0] 64)) w.heap.size 0 := by
  obtain ⟨h1, h2, h3, h4⟩ := h
  refine ⟨a, n, cap, xs, 0, 0, heap_alloc_new w _, Nat.le_refl _, h1, by decide, h2.below ((Below.refl _ _).alloc (Nat.le_refl _) _), h3, fun x e => h4 x e⟩
theorem okWide_lt {P : Program} {w : World} {r : Reach} {base : Nat} {t e : TypeId} {v : Value} (ht : P.underlying t = some (.slice e)) (h : Value.okWide P w r base t v) :
    ∀ a len cap, v = .slice (some a) len cap → a.block < w.heap.size := by
  rintro a len cap rfl
  simp only [Value.okWide, ht, Cell.okWide, Cell.ok] at h
  obtain ⟨_, _, _, _, row, cells, hsh, _⟩ := h
  unfold World.shape? at hsh
  rcases Nat.lt_or_ge a.block w.heap.size with h1 | h1
  · exact h1
  · simp [Array.getElem?_eq_none h1] at hsh

theorem open_bytes {P : Program} {H : Type} {enc : TypeId × Value → H} {W : World} {r : Reach} {b0 base : Nat} {spare : Nat → Bool} {held : Bool} {t e : TypeId} {v : Value} {d : DataW H} {p : List MemPlace} (ht : P.underlying t = some (.slice e)) (he : P.underlying e = some (.int .u8)) (hc : P.cellsOf e = 1)
    (hv : Value.okWide P W r b0 t v) (h : DataW.Trod enc P W base spare held t v d p) :
    ∃ (a : Option Addr) (n cap : Nat) (xs : Nat → Nat), v = .slice a n cap ∧ Bytes W a n xs := by
  have hlt := okWide_lt ht hv
  obtain ⟨a, len, cap, rfl⟩ := Go.WideShapes.okWide_slice ht hv
  obtain ⟨fuel, hf⟩ := h
  rcases open_ints ht he hc hf with ⟨hcs, _⟩ | ⟨x, l, c, zs, hcs, _, hl, hm, hz, _, hcell, hwf⟩
  · simp [Value.cells] at hcs
    obtain ⟨rfl, rfl, rfl⟩ := hcs
    exact ⟨none, 0, 0, fun _ => 0, rfl, by unfold maxLen; omega, .inl rfl, fun _ => Nat.zero_le _, fun x e => by cases e⟩
  · simp [Value.cells] at hcs
    obtain ⟨rfl, rfl, rfl⟩ := hcs
    have hlz : len ≤ zs.length := by rw [hz]; split <;> omega
    have hnn : ∀ k, 0 ≤ zs.getD k 0 ∧ zs.getD k 0 ≤ 255 := fun k => by
      by_cases hk : k < zs.length
      · have hmem : zs.getD k 0 ∈ zs := by
          rw [List.getD_eq_getElem?_getD, List.getElem?_eq_getElem hk]
          exact List.getElem_mem hk
        have := hwf _ hmem
        simp only [Lit.wf, Bool.and_eq_true] at this
        exact ⟨of_decide_eq_true this.1, of_decide_eq_true this.2⟩
      · rw [List.getD_eq_getElem?_getD, List.getElem?_eq_none (Nat.le_of_not_lt hk)]
        simp
    refine ⟨some x, len, cap, fun k => (zs.getD k 0).toNat, rfl, by omega, RowAt.of_add fun k hk => ?_, fun k => ?_, fun y e => ?_⟩
    · rw [hcell k (by omega)]
      have := (hnn k).1
      simp only [Int.toNat_of_nonneg this]
    · have := hnn k
      show (zs.getD k 0).toNat ≤ 255
      omega
    · cases e; exact hlt x len cap rfl

end Go.Proofs.YtleoljnofdajfaaGreatDoor.CodB
