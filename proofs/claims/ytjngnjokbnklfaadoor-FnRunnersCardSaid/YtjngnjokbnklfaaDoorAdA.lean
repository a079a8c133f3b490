/- AddRunner: the list with one more; copying and inserting. -/
import Derived.Test.YtjngnjokbnklfaaDoorRuP
import Derived.Test.YtjngnjokbnklfaaDoorRuN
import Derived.Test.YtjngnjokbnklfaaDoorRuV
import Derived.Test.YtjngnjokbnklfaaDoorRuW
namespace Go.Proofs.YtjngnjokbnklfaaDoor.AdA
open Go.RowKit Lb Bk InA Wd RuK RuI RuU RuA RuG RuC RuP RuW
set_option linter.unusedSimpArgs false
set_option linter.unusedVariables false

/-- The place of an Id. -/
def pl (rs : List Ru) (id : Int) : Nat := rs.findIdx (fun r => decide (id ≤ r.id))
theorem pl_le (rs : List Ru) (id : Int) : pl rs id ≤ rs.length := List.findIdx_le_length
theorem plc_pl {rs : List Ru} (h : Asc rs) (id : Int) : Plc rs id (pl rs id) := by
  obtain ⟨k, hk⟩ := h.plc id
  have e : pl rs id = k := hk.unique (pl_le rs id) (fun t ht => by
    have hl : t < rs.length := Nat.lt_of_lt_of_le ht (pl_le rs id)
    have := List.not_of_lt_findIdx ht
    rw [at_lt hl]
    simp at this
    omega) (fun t h1 h2 => by
    have hkl : pl rs id < rs.length := by omega
    have h3 := List.findIdx_getElem (w := hkl)
    have h3' : id ≤ (at_ rs (pl rs id)).id := by rw [at_lt hkl]; exact of_decide_eq_true h3
    rcases Nat.lt_or_ge (pl rs id) t with h4 | h4
    · have := h.lt h4 h2; omega
    · have : t = pl rs id := by omega
      rw [this]; exact h3')
  rw [e]; exact hk
/-- The list with one more. -/
def insR (rs : List Ru) (x : Ru) : List Ru := rs.take (pl rs x.id) ++ [x] ++ rs.drop (pl rs x.id)
theorem ins_len (rs : List Ru) (x : Ru) : (insR rs x).length = rs.length + 1 := by
  have := pl_le rs x.id
  unfold insR
  simp only [List.length_append, List.length_take, List.length_drop, List.length_cons, List.length_nil]
  omega
theorem all_at {P : Ru → Prop} {rs : List Ru} : (∀ i, i < rs.length → P (at_ rs i)) ↔ ∀ r, r ∈ rs → P r := by
  constructor
  · intro h r hr
    obtain ⟨i, hi, rfl⟩ := List.mem_iff_getElem.1 hr
    rw [← at_lt hi]
    exact h i hi
  · intro h i hi
    rw [at_lt hi]
    exact h _ (List.getElem_mem hi)
theorem ins_all {P : Ru → Prop} {rs : List Ru} {x : Ru} (h : ∀ i, i < rs.length → P (at_ rs i)) (hx : P x) : ∀ i, i < (insR rs x).length → P (at_ (insR rs x) i) := by
  rw [all_at] at h ⊢
  intro r hr
  unfold insR at hr
  rcases List.mem_append.1 hr with h1 | h1
  · rcases List.mem_append.1 h1 with h2 | h2
    · exact h r (List.mem_of_mem_take h2)
    · obtain rfl : r = x := by simpa using h2
      exact hx
  · exact h r (List.mem_of_mem_drop h1)
/-- What AddRunner answers. -/
def adB (rs : List Ru) (x : Ru) : Bool := goodB rs && goodB (insR rs x)
def adL (rs : List Ru) (x : Ru) : List Ru := if adB rs x then insR rs x else []

theorem clone_all (a : Option Addr) (cap : Nat) (rs : List Ru) (hl : rs.length ≤ 1048576) (w : World) (hr : Row w a rs) :
    Calls Tryd.prog 44 #[.slice a rs.length cap] w fun e w' => ∃ v, e = .returned v ∧ Own w' w.heap.size v rs ∧ Below w.heap.size w w' := by
  cases a with
  | some ad => exact clone_any ad cap rs hl w hr
  | none =>
    have h0 : rs = [] := by
      rcases hr with h | ⟨b, off, e, _⟩
      · exact List.eq_nil_of_length_eq_zero h
      · cases e
    subst h0
    have q22 : ∀ (w : World) (a : Option Addr) (n c n' c' : Nat), (binOp .eql 33 (.slice a n c) (.slice none n' c')).run Tryd.prog w = .ok (.bool a.isNone) w := fun w a n c n' c' => Lib.run_eql_slice_nil w _ _ a n c n' c' Tryd.underlying33
    clear hr
    go_enter Tryd.func44, Tryd.ntmps44
    go_wp2
    go_ret
    exact ⟨_, rfl, World.ownsRow_nil _ _ _ _, Below.refl _ _⟩

theorem ins_own (base : Nat) (v : Value) (rs : List Ru) (k : Nat) (hk : k ≤ rs.length) (hl : rs.length ≤ 1048576) (x : Ru) (vb : Nat) (tv : TypeId) (w : World) (ho : Own w base v rs) (hb : base ≤ w.heap.size)
    (hx : Blk w vb tv #[.int .i64 x.id, .string x.nm, .string x.cl, .int .i64 x.bo, .bool x.wo, .int .i64 x.ca]) (hne : v.ownBlock ≠ some vb) :
    Calls Tryd.prog 43 #[v, .int .i64 k, .slice (some ⟨vb, 0, none⟩) 1 1] w fun e w' => ∃ v', e = .returned v' ∧ Own w' base v' (rs.take k ++ [x] ++ rs.drop k) ∧ w.grownBy w' v.ownBlock := by
  have hone : ∀ u ∈ cells [x], u.oneCell' = true := cells_one [x]
  refine (RuV.ins_any base v rs.length k (cells rs) (cells [x]) hk hl vb tv w ho hb hx rfl (cells_one rs) hone hne).mono ?_
  rintro e w' ⟨v', rfl, h1, h2⟩
  refine ⟨v', rfl, ?_, h2⟩
  unfold Own
  rw [cells_take, cells_drop, ← cells_cat, ← cells_cat] at h1
  have : (rs.take k ++ [x] ++ rs.drop k).length = rs.length + 1 := by simp only [List.length_append, List.length_take, List.length_drop, List.length_cons, List.length_nil]; omega
  rw [this]
  exact h1
end Go.Proofs.YtjngnjokbnklfaaDoor.AdA
