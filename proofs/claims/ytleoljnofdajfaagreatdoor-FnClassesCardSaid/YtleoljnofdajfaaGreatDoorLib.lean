/- Plain lemmas on rows of cells in memory: no program is named here. -/
import Derived.WalkKit
import Derived.Deep.QuietTactic
import Derived.BigQuiet
import Derived.Lib.Hide
import Derived.WalkSmall
namespace Go.Proofs.YtleoljnofdajfaaGreatDoor.Lb
open Go.RowKit

/-- 'n' cells from the slice's address on hold 'f 0', 'f 1', .. -/
def RowAt (w : World) (a : Option Addr) (n : Nat) (f : Nat → Value) : Prop :=
  n = 0 ∨ ∃ b off, a = some ⟨b, off, none⟩ ∧ ∀ k, k < n → w.cell? ⟨b, off + k, none⟩ = some (f k)

theorem RowAt.below {w w' : World} {a : Option Addr} {n : Nat} {f : Nat → Value} (h : RowAt w a n f) (hb : Below w.heap.size w w') : RowAt w' a n f := by
  rcases h with h | ⟨b, off, ha, hc⟩
  · exact .inl h
  · exact .inr ⟨b, off, ha, fun k hk => (hb.cell (World.block_lt_of_cell? w _ (hc k hk))).trans (hc k hk)⟩

theorem RowAt.belowB {B : Nat} {w w' : World} {a : Option Addr} {n : Nat} {f : Nat → Value} (h : RowAt w a n f) (hb : Below B w w') (hB : w.heap.size ≤ B) : RowAt w' a n f :=
  h.below (hb.mono hB)

theorem RowAt.heap {w w' : World} {a : Option Addr} {n : Nat} {f : Nat → Value} (h : RowAt w a n f) (hb : w'.heap = w.heap) : RowAt w' a n f := by
  rcases h with h | ⟨b, off, ha, hc⟩
  · exact .inl h
  · exact .inr ⟨b, off, ha, fun k hk => by rw [← hc k hk]; simp [World.cell?, hb]⟩

/-- A row in block 'g', which later writes leave alone. -/
theorem RowAt.grown {w w' : World} {g off : Nat} {n : Nat} {f : Nat → Value} (h : RowAt w (some ⟨g, off, none⟩) n f) {r : Option Nat} (hb : w.grownBy w' r) (hr : r ≠ some g) : RowAt w' (some ⟨g, off, none⟩) n f := by
  rcases h with h | ⟨b, o, ha, hc⟩
  · exact .inl h
  · obtain ⟨rfl, rfl⟩ : g = b ∧ off = o := by simpa using ha
    exact .inr ⟨g, off, rfl, fun k hk => hb.cell (hc k hk) (fun e => hr e.symm)⟩

theorem RowAt.of_owns {w : World} {base : Nat} {e : TypeId} {g n cap : Nat} {xs : List Value} (h : w.ownsRow base e 1 (.slice (some ⟨g, 0, none⟩) n cap) n xs) :
    RowAt w (some ⟨g, 0, none⟩) n (fun k => xs.getD k undef) := by
  refine .inr ⟨g, 0, rfl, fun k hk => ?_⟩
  have hl := h.1
  rw [Nat.zero_add, h.cellAt k (by omega)]
  simp [show k < xs.length by omega]

theorem RowAt.congr {w : World} {a : Option Addr} {n : Nat} {f g : Nat → Value} (h : RowAt w a n f) (hfg : ∀ k, k < n → f k = g k) : RowAt w a n g := by
  rcases h with h | ⟨b, off, ha, hc⟩
  · exact .inl h
  · exact .inr ⟨b, off, ha, fun k hk => by rw [hc k hk, hfg k hk]⟩

def sAt (ss : List ByteArray) (k : Nat) : ByteArray := ss.getD k ByteArray.empty
def StrRow (w : World) (a : Option Addr) (ss : List ByteArray) : Prop := RowAt w a ss.length (fun k => .string (sAt ss k))
def IntRow (w : World) (a : Option Addr) (zs : List Int) : Prop := RowAt w a zs.length (fun k => .int .i64 (zs.getD k 0))

def total : List ByteArray → Nat
  | [] => 0
  | s :: r => s.size + total r

theorem total_append (a b : List ByteArray) : total (a ++ b) = total a + total b := by
  induction a with
  | nil => simp [total]
  | cons s r ih => simp [total, ih]; omega

theorem take_succ_getD {α : Type} (l : List α) (d : α) (k : Nat) (h : k < l.length) : l.take (k + 1) = l.take k ++ [l.getD k d] := by
  rw [List.take_succ_eq_append_getElem h]; simp [h]

theorem total_take (ss : List ByteArray) (k : Nat) (h : k < ss.length) : total (ss.take (k + 1)) = total (ss.take k) + (sAt ss k).size := by
  rw [take_succ_getD ss ByteArray.empty k h, total_append]; simp [total, sAt]

theorem total_mono (ss : List ByteArray) (k : Nat) : total (ss.take k) ≤ total ss := by
  have := total_append (ss.take k) (ss.drop k)
  rw [List.take_append_drop] at this; omega

theorem size_le_total (ss : List ByteArray) (k : Nat) : (sAt ss k).size ≤ total ss := by
  by_cases h : k < ss.length
  · have := total_take ss k h
    have := total_mono ss (k + 1)
    omega
  · simp [sAt, List.getD, List.getElem?_eq_none (Nat.le_of_not_lt h)]

theorem ext_sAt {ss tt : List ByteArray} (hl : ss.length = tt.length) (h : ∀ i, i < ss.length → sAt ss i = sAt tt i) : ss = tt := by
  apply List.ext_getElem hl
  intro i h1 h2
  have := h i h1
  simpa [sAt, h1, h2] using this

theorem all_succ {p : Nat → Prop} {k : Nat} (h : ∀ i, i < k → p i) (hk : p k) : ∀ i, i < k + 1 → p i := by
  intro i hi
  by_cases e : i = k
  · subst e; exact hk
  · exact h i (by omega)

/-- Where two lists part first. -/
theorem first_of {n : Nat} {p : Nat → Prop} (h : ¬ ∀ i, i < n → p i) : ∃ j, j < n ∧ (∀ i, i < j → p i) ∧ ¬ p j := by
  induction n with
  | zero => exact absurd (fun i hi => by omega) h
  | succ n ih =>
    by_cases hn : ∀ i, i < n → p i
    · refine ⟨n, by omega, hn, fun hp => h fun i hi => ?_⟩
      by_cases e : i = n
      · subst e; exact hp
      · exact hn i (by omega)
    · obtain ⟨j, hj, h1, h2⟩ := ih hn
      exact ⟨j, by omega, h1, h2⟩

theorem first_diff {ss tt : List ByteArray} (hl : ss.length = tt.length) (hne : ss ≠ tt) : ∃ j, j < ss.length ∧ (∀ i, i < j → sAt ss i = sAt tt i) ∧ sAt ss j ≠ sAt tt j :=
  first_of (fun h => hne (ext_sAt hl h))

/-- The world as it was but for draws. -/
def Still (w w' : World) : Prop := ∃ n, w' = w.drewN n
theorem Still.refl (w : World) : Still w w := ⟨0, rfl⟩
theorem Still.below {w w' : World} (h : Still w w') (B : Nat) : Below B w w' := by
  obtain ⟨n, rfl⟩ := h; exact ⟨rfl, rfl, rfl, Nat.le_refl _, fun _ _ => rfl⟩
theorem Still.heap {w w' : World} (h : Still w w') : w'.heap = w.heap := by
  obtain ⟨n, rfl⟩ := h; rfl
theorem Still.trans {a b c : World} (h : Still a b) (k : Still b c) : Still a c := by
  obtain ⟨n, rfl⟩ := h; obtain ⟨m, rfl⟩ := k; exact ⟨n + m, by simp⟩
theorem Still.drewN {a b : World} (h : Still a b) (m : Nat) : Still a (b.drewN m) := h.trans ⟨m, rfl⟩
theorem Still.drew {a b : World} (h : Still a b) : Still a b.drew := h.trans ⟨1, rfl⟩

theorem toList_inj {a b : ByteArray} (h : a.toList = b.toList) : a = b := by
  rw [ByteArray.toList_eq, ByteArray.toList_eq] at h
  cases a; cases b
  simp only [ByteArray.mk.injEq]
  exact Array.toList_inj.1 h
theorem str_neq {a b : ByteArray} (h : a ≠ b) : (!a.toList == b.toList) = true := by
  simp only [Bool.not_eq_true', beq_eq_false_iff_ne, ne_eq]
  exact fun e => h (toList_inj e)
theorem str_beq {a b : ByteArray} (h : a ≠ b) : (a.toList == b.toList) = false := by
  simp only [beq_eq_false_iff_ne, ne_eq]
  exact fun e => h (toList_inj e)

theorem spot_none {w : World} {a : Addr} {v : Value} (h : w.cell? a = some v) : a.spot = none := by
  unfold World.cell? at h
  split at h
  · split at h
    · cases h
    · rename_i hs; simpa using hs
  · cases h
theorem add_of_spot {a : Addr} (h : a.spot = none) (k : Nat) : a.add k = ⟨a.block, a.off + k, none⟩ := by
  unfold Addr.add
  split
  · rename_i hk; subst hk; cases a; simp_all
  · simp
/-- A row whose cells are given by steps from an address. -/
theorem RowAt.of_add {w : World} {x : Addr} {n : Nat} {f : Nat → Value} (h : ∀ k, k < n → w.cell? (x.add k) = some (f k)) : RowAt w (some x) n f := by
  by_cases h0 : n = 0
  · exact .inl h0
  · have hs : x.spot = none := by
      have := h 0 (by omega)
      exact spot_none (a := x) (by simpa [Addr.add] using this)
    exact .inr ⟨x.block, x.off, by cases x; simp_all, fun k hk => by rw [← add_of_spot hs]; exact h k hk⟩

theorem ret_int {k : IntKind} {a b : Int} (h : a = b) : Ending.returned (.int k a) = .returned (.int k b) := by rw [h]
theorem ret_bool {a b : Bool} (h : a = b) : Ending.returned (.bool a) = .returned (.bool b) := by rw [h]

end Go.Proofs.YtleoljnofdajfaaGreatDoor.Lb
