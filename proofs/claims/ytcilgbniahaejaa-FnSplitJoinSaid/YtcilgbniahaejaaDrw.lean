/- The drawn inputs of splitting, joining and comparing: contracts. -/
import Derived.Test.YtcilgbniahaejaaCurT
import Derived.Maps.AppendAt
namespace Go.Proofs.Ytcilgbniahaejaa.Drw
open Go.RowKit Lb Cur
set_option linter.unusedSimpArgs false
set_option linter.unusedVariables false

/-- A list of bytes that came in. -/
def Code (w : World) (a : Option Addr) (n : Nat) (xs : Nat → Nat) : Prop :=
  n ≤ maxLen ∧ RowAt w a n (fun k => .int .u8 (xs k)) ∧ (∀ k, xs k ≤ 255) ∧ ∀ x, a = some x → x.block < w.heap.size

theorem Code.below {w w' : World} {a : Option Addr} {n : Nat} {xs : Nat → Nat} (h : Code w a n xs) (hb : Below w.heap.size w w') : Code w' a n xs := by
  obtain ⟨h1, h2, h3, h4⟩ := h
  exact ⟨h1, h2.below hb, h3, fun x e => Nat.lt_of_lt_of_le (h4 x e) hb.size⟩

/-- The reader that a drawing makes. -/
theorem start {w : World} {a : Option Addr} {n : Nat} {xs : Nat → Nat} (h : Code w a n xs) (cap : Nat) :
    Ok (w.alloc (.cells #[.slice a n cap, .int .i64 0, .int .u64 0] 44)) w.heap.size 0 := by
  obtain ⟨h1, h2, h3, h4⟩ := h
  refine ⟨a, n, cap, xs, 0, 0, heap_alloc_new w _, Nat.le_refl _, h1, by decide, h2.below ((Below.refl _ _).alloc (Nat.le_refl _) _), h3, fun x e => h4 x e⟩

theorem below_of_grown {w w1 w2 : World} {b : Nat} (h : Below w.heap.size w w1) (hg : w1.grownBy w2 (some b)) (hb : w.heap.size ≤ b) : Below w.heap.size w w2 :=
  h.grown hg h.size (fun k e => by cases e; exact hb)

set_option maxHeartbeats 400000 in
theorem drawLess (a : Option Addr) (n cap : Nat) (xs : Nat → Nat) (w : World) (hc : Code w a n xs) :
    Calls Try.prog 14 #[.slice a n cap] w fun e w' => (∃ s t : ByteArray, e = .returned (.tuple #[.string s, .string t]) ∧ s.size ≤ 16 ∧ t.size ≤ 16) ∧ Below w.heap.size w w' := by
  have hs := start hc cap
  have c1 := Lib.hid (any1_any _ 0 _ (by omega) hs)
  have c2 := Lib.hid (fun w' (h : Ok w' w.heap.size 2) => any1_any w.heap.size 2 w' (by omega) h)
  have HB := Lib.hid (show Below w.heap.size w (w.alloc (.cells #[.slice a n cap, .int .i64 0, .int .u64 0] 44)) from (Below.refl _ _).alloc (Nat.le_refl _) _)
  clear hs hc
  go_enter Try.func14, Try.ntmps14
  go_wp2_with fail
  refine c1.out.mono ?_
  rintro e w1 ⟨⟨s, rfl, hs⟩, hok1, hg1⟩
  have c3 := Lib.hid (c2.out w1 hok1)
  have HB1 := Lib.hid (below_of_grown HB.out hg1 (Nat.le_refl _))
  clear hok1 hg1
  go_wp2_with fail
  refine c3.out.mono ?_
  rintro e w2 ⟨⟨t, rfl, ht⟩, hok2, hg2⟩
  have HB2 := Lib.hid (below_of_grown HB1.out hg2 (Nat.le_refl _))
  clear hok2 hg2
  go_wp2_with fail
  go_ret2
  exact ⟨⟨s, t, rfl, hs, ht⟩, HB2.out⟩

def seps1 : List ByteArray := [⟨#[44]⟩, ⟨#[44]⟩, ⟨#[32]⟩, ⟨#[]⟩, ⟨#[44, 44]⟩]
theorem seps1_small : ∀ s ∈ seps1, s.size ≤ 16 := by
  intro s hs
  simp only [seps1, List.mem_cons, List.not_mem_nil, or_false] at hs
  rcases hs with rfl | rfl | rfl | rfl | rfl <;> decide
def seps2 : List ByteArray := [⟨#[44]⟩, ⟨#[59]⟩, ⟨#[59]⟩, ⟨#[]⟩, ⟨#[97, 98]⟩]
theorem seps2_small : ∀ s ∈ seps2, s.size ≤ 16 := by
  intro s hs
  simp only [seps2, List.mem_cons, List.not_mem_nil, or_false] at hs
  rcases hs with rfl | rfl | rfl | rfl | rfl <;> decide

/-- One of five texts that the call has just laid. -/
theorem of_new (b m : Nat) (L : List ByteArray) (w : World) (hm : m ≤ 1152921504606846970) (h5 : L.length = 5) (hok : Ok w b m) :
    Calls Try.prog 26 #[.pointer (some ⟨b, 0, none⟩), .slice (some ⟨w.heap.size, 0, none⟩) 5 5] (w.alloc (.cells (L.map Value.string).toArray 9)) fun e w' => (∃ r, r < L.length ∧ e = .returned (.string (sAt L r))) ∧ Ok w' b (m + 2) ∧ w.grownBy w' (some b) := by
  have hl := hok.lt
  have hB : Below w.heap.size w (w.alloc (.cells (L.map Value.string).toArray 9)) := (Below.refl _ _).alloc (Nat.le_refl _) _
  have := of_any b m (some ⟨w.heap.size, 0, none⟩) 5 L _ hm (by omega) (by omega) (row_alloc w 9 L) (fun x e => by cases e; exact fun e => absurd e (by show w.heap.size ≠ b; omega)) (hok.below hB)
  rw [h5] at this ⊢
  exact this.mono fun e w' ⟨h1, h2, h3⟩ => ⟨h1, h2, gtrans (gbelow hB (some b)) h3⟩

set_option maxHeartbeats 400000 in
theorem drawSplit (a : Option Addr) (n cap : Nat) (xs : Nat → Nat) (w : World) (hc : Code w a n xs) :
    Calls Try.prog 9 #[.slice a n cap] w fun e w' => (∃ s t : ByteArray, e = .returned (.tuple #[.string s, .string t]) ∧ s.size ≤ 16 ∧ t.size ≤ 16) ∧ Below w.heap.size w w' := by
  have hs := start hc cap
  have c1 := Lib.hid (any1_any _ 0 _ (by omega) hs)
  have c2 := Lib.hid (fun w' (h : Ok w' w.heap.size 2) => of_new w.heap.size 2 seps1 w' (by omega) rfl h)
  have HB := Lib.hid (show Below w.heap.size w (w.alloc (.cells #[.slice a n cap, .int .i64 0, .int .u64 0] 44)) from (Below.refl _ _).alloc (Nat.le_refl _) _)
  clear hs hc
  go_enter Try.func9, Try.ntmps9
  go_wp2_with fail
  refine c1.out.mono ?_
  rintro e w1 ⟨⟨s, rfl, hs⟩, hok1, hg1⟩
  have c3 := Lib.hid (c2.out w1 hok1)
  have HB1 := Lib.hid (below_of_grown HB.out hg1 (Nat.le_refl _))
  clear hok1 hg1
  go_wp2_with fail
  refine c3.out.mono ?_
  rintro e w2 ⟨⟨r, _, rfl⟩, hok2, hg2⟩
  have HB2 := Lib.hid (below_of_grown HB1.out hg2 (Nat.le_refl _))
  clear hok2 hg2
  have ht := sAt_small seps1_small r
  go_wp2_with fail
  go_ret2
  exact ⟨⟨s, _, rfl, hs, ht⟩, HB2.out⟩

end Go.Proofs.Ytcilgbniahaejaa.Drw
