/- Lists of lists of numbers: what they are in memory, and the laws' own helpers over them. -/
import Derived.Test.YtfpfnnindlfgfaaSpecB
namespace Go.Proofs.Ytfpfnnindlfgfaa.TblS
open Go.RowKit Lb IntS MapS SpecB
set_option linter.unusedSimpArgs false
set_option linter.unusedVariables false

theorem rInfo : (Try.prog.info? 24).map (fun i => (i.zero, i.size, i.bytes)) = some (some (.slice none 0 0), 1, 24) := by kernel_rfl

/-- 'n' lists of numbers that can be read. -/
def Rd (w : World) (a : Option Addr) (n : Nat) (zs : Nat → List Int) : Prop :=
  ∃ rs : Nat → Value, RowAt w a n rs ∧ ∀ i, i < n → ∃ ai ci, rs i = .slice ai (zs i).length ci ∧ IRow w ai (zs i)
theorem Rd.below {w w' : World} {a : Option Addr} {n : Nat} {zs : Nat → List Int} (h : Rd w a n zs) (hb : Below w.heap.size w w') : Rd w' a n zs := by
  obtain ⟨rs, h1, h2⟩ := h
  refine ⟨rs, RowAt.below h1 hb, fun i hi => ?_⟩
  obtain ⟨ai, ci, e, h3⟩ := h2 i hi
  exact ⟨ai, ci, e, RowAt.below h3 hb⟩
theorem Rd.belowB {B : Nat} {w w' : World} {a : Option Addr} {n : Nat} {zs : Nat → List Int} (h : Rd w a n zs) (hb : Below B w w') (hB : w.heap.size ≤ B) : Rd w' a n zs := h.below (hb.mono hB)

/-- Lists of the call's own: a row of rows, all in blocks of their own. -/
structure OwnP (w : World) (base : Nat) (v : Value) (n : Nat) (zs : Nat → List Int) (rs : Nat → Value) : Prop where
  tbl : w.ownsRow base 24 1 v n ((List.range n).map rs)
  row : ∀ i, i < n → OwnI w base (rs i) (zs i)
  ne : ∀ i j, i < j → j < n → ∀ x, (rs i).ownBlock = some x → (rs j).ownBlock ≠ some x
theorem OwnP.below {w w' : World} {base n : Nat} {v : Value} {zs : Nat → List Int} {rs : Nat → Value} (h : OwnP w base v n zs rs) (hb : Below w.heap.size w w') : OwnP w' base v n zs rs :=
  ⟨owns_below h.tbl hb, fun i hi => owns_below (h.row i hi) hb, h.ne⟩
theorem OwnP.rebase {w : World} {b b' n : Nat} {v : Value} {zs : Nat → List Int} {rs : Nat → Value} (h : OwnP w b v n zs rs) (hb : b' ≤ b) : OwnP w b' v n zs rs :=
  ⟨IntS.rebase h.tbl hb, fun i hi => IntS.rebase (h.row i hi) hb, h.ne⟩
theorem OwnP.rd {w : World} {base n cap : Nat} {a : Option Addr} {zs : Nat → List Int} {rs : Nat → Value} (h : OwnP w base (.slice a n cap) n zs rs) : Rd w a n zs := by
  refine ⟨rs, ?_, fun i hi => ?_⟩
  · rcases h.tbl.2 with ⟨_, h0⟩ | ⟨g, c, cur, hv, _⟩
    · exact .inl h0
    · obtain rfl : a = some ⟨g, 0, none⟩ := by simpa using (Value.slice.inj hv).1
      exact (RowAt.of_owns h.tbl).congr fun k hk => by simp [hk]
  · obtain ⟨ai, ci, e, hr, _⟩ := OwnI.slice (h.row i hi)
    exact ⟨ai, ci, e, hr⟩
theorem OwnP.slice {w : World} {base n : Nat} {v : Value} {zs : Nat → List Int} {rs : Nat → Value} (h : OwnP w base v n zs rs) : ∃ a cap, v = .slice a n cap := by
  rcases h.tbl.2 with ⟨rfl, h0⟩ | ⟨g, cap, cur, rfl, _⟩
  · exact ⟨none, 0, by rw [h0]⟩
  · exact ⟨_, cap, rfl⟩
/-- Two rows of different kinds lie apart. -/
theorem own_own_ne {w : World} {b b' : Nat} {e e' : TypeId} {v v' : Value} {n n' : Nat} {xs xs' : List Value} (h : w.ownsRow b e 1 v n xs) (h' : w.ownsRow b' e' 1 v' n' xs') (hne : e ≠ e') : ∀ x y, v.ownBlock = some x → v'.ownBlock = some y → x ≠ y := by
  rintro x y hx hy rfl
  rcases h.2 with ⟨rfl, _⟩ | ⟨g, cap, cur, rfl, hg, hh, _⟩
  · simp [Value.ownBlock] at hx
  · rcases h'.2 with ⟨rfl, _⟩ | ⟨g', cap', cur', rfl, hg', hh', _⟩
    · simp [Value.ownBlock] at hy
    · obtain rfl : g = x := by simpa [Value.ownBlock] using hx
      obtain rfl : g' = g := by simpa [Value.ownBlock] using hy
      rw [hh] at hh'
      injection hh' with h3
      injection h3 with _ h4
      exact hne h4
theorem own_lt {w : World} {b : Nat} {e : TypeId} {v : Value} {n : Nat} {xs : List Value} (h : w.ownsRow b e 1 v n xs) : ∀ x, v.ownBlock = some x → b ≤ x ∧ x < w.heap.size := h.lt
/-- The sum of the lengths ahead of a list. -/
def tot (zs : Nat → List Int) : Nat → Nat
  | 0 => 0
  | n + 1 => tot zs n + (zs n).length
theorem tot_le {zs : Nat → List Int} {c n : Nat} (h : ∀ i, i < n → (zs i).length ≤ c) : tot zs n ≤ c * n := by
  induction n with
  | zero => simp [tot]
  | succ n ih =>
    have h1 := ih fun i hi => h i (by omega)
    have h2 := h n (by omega)
    rw [tot, Nat.mul_succ]
    omega
theorem tot_mono {zs : Nat → List Int} {i n : Nat} (h : i ≤ n) : tot zs i ≤ tot zs n := by
  induction n with
  | zero => simp [show i = 0 by omega]
  | succ n ih =>
    by_cases e : i = n + 1
    · subst e; exact Nat.le_refl _
    · have := ih (by omega)
      rw [tot]; omega
/-- What stands in the lists when the first 'i' are marked. -/
def mk (k : Int) (zs : Nat → List Int) (i : Nat) : Nat → List Int := fun j => if j < i then markZ (k + tot zs j) (zs j).length else zs j
theorem mk_zero (k : Int) (zs : Nat → List Int) : mk k zs 0 = zs := by funext j; simp [mk]
theorem mk_length (k : Int) (zs : Nat → List Int) (i j : Nat) : (mk k zs i j).length = (zs j).length := by
  unfold mk; split <;> simp [markZ_length]
theorem mk_succ_ne (k : Int) (zs : Nat → List Int) {i j : Nat} (h : j ≠ i) : mk k zs (i + 1) j = mk k zs i j := by
  unfold mk
  by_cases e : j < i
  · rw [if_pos e, if_pos (by omega)]
  · rw [if_neg e, if_neg (by omega)]
theorem mk_succ_at (k : Int) (zs : Nat → List Int) (i : Nat) : mk k zs (i + 1) i = markZ (k + tot zs i) (zs i).length := by
  unfold mk; rw [if_pos (by omega)]
theorem mk_at (k : Int) (zs : Nat → List Int) (i : Nat) : mk k zs i i = zs i := by unfold mk; rw [if_neg (by omega)]

/-- One list of the table has been written. -/
theorem OwnP.set_ {w w' : World} {base n : Nat} {v : Value} {zs : Nat → List Int} {rs : Nat → Value} (h : OwnP w base v n zs rs) {i : Nat} (hi : i < n) {zs' : Nat → List Int} (hz : ∀ j, j ≠ i → zs' j = zs j) (ho : OwnI w' base (rs i) (zs' i)) (hg : w.grownBy w' (rs i).ownBlock) : OwnP w' base v n zs' rs := by
  refine ⟨own_grown h.tbl hg (own_own_ne h.tbl (h.row i hi) (by decide)), fun j hj => ?_, h.ne⟩
  by_cases e : j = i
  · subst e; exact ho
  · rw [hz j e]
    refine own_grown (h.row j hj) hg (fun x y hx hy => ?_)
    rcases Nat.lt_or_gt_of_ne e with hlt | hgt
    · rintro rfl; exact h.ne j i hlt hi x hx hy
    · rintro rfl; exact h.ne i j hgt hj x hy hx

end Go.Proofs.Ytfpfnnindlfgfaa.TblS
