/- Lists of Controls that are copied, changed at one place, or get one more: laws of the library's functions. -/
import Derived.Test.YtdfmfmndmldggaaCoF
import Derived.Test.YtdfmfmndmldggaaBaC
import Derived.Test.YtdfmfmndmldggaaCtV
import Derived.BigRegion
import Derived.Shelf.Abstract
import Derived.Lib.SliceRun
import Derived.OwnWalk
import Derived.Maps.AppendAt
namespace Go.Proofs.Ytdfmfmndmldggaa.CoB
open Go.RowKit Lb Bk CtK CoM CoP CoF
set_option linter.unusedSimpArgs false
set_option linter.unusedVariables false

set_option maxRecDepth 20000 in
set_option maxHeartbeats 1000000 in
theorem clone_any (ad : Addr) (cap : Nat) (rs : List Ct) (hl : rs.length ≤ 1048576) (w : World) (hr : Row w (some ad) rs) :
    Calls Try.prog 104 #[.slice (some ad) rs.length cap] w fun e w' => ∃ v, e = .returned v ∧ Own w' w.heap.size v rs ∧ Below w.heap.size w w' := by
  obtain ⟨t0, hi, hz0, hz1, hz2⟩ := info_parts info
  have hB := (Below.refl w.heap.size w).alloc (Nat.le_refl _) (.cells #[] 70)
  have HB := Lib.hid hB
  have HN := Lib.hid (Row.news (hr.later hB))
  have hown := Own.empty w
  unfold Own at hown
  obtain ⟨n, hn⟩ : ∃ n, rs.length = n := ⟨_, rfl⟩
  have HNl := Lib.hid hn
  have hcl : (cells rs).length = n * 2 := by rw [cells_len, hn]
  rw [hn] at hl ⊢
  have q22 : ∀ (w : World) (a : Option Addr) (n c n' c' : Nat), (binOp .eql 27 (.slice a n c) (.slice none n' c')).run Try.prog w = .ok (.bool a.isNone) w := fun w a n c n' c' => Lib.run_eql_slice_nil w _ _ a n c n' c' Try.underlying27
  clear hr hB hn
  go_enter Try.func104, Try.ntmps104
  go_wp2_with (go_loud (at_builtin; (refine wpList_append_own _ rfl (.tmp 5) (.tmp 6) 27 rfl w.heap.size 70 t0 (.agg #[.int .i64 no.co, .int .i64 no.ce]) 2 16 Try.underlying27 hi hz0 hz1 hz2 rfl (by decide) _ 0 _ rfl hown ad n cap (cells rs) rfl hcl HN.out (cells_one rs) (by unfold maxLen; omega) (by omega) HB.out.size ?_; intro v' w3 hown3 hgr3 _; have HO := Lib.hid (show Own w3 w.heap.size v' ([] ++ rs) from Own.cat rfl HNl.out hown3); have HB3 := Lib.hid (HB.out.grown (show World.grownBy _ w3 (some w.heap.size) from hgr3) HB.out.size (fun q e => by cases e; exact Nat.le_refl _)); clear hown3 hgr3)))
  go_ret
  exact ⟨_, rfl, HO.out, HB3.out⟩

theorem own_some {w : World} {base : Nat} {v : Value} {rs : List Ct} (h : Own w base v rs) (hp : 0 < rs.length) : ∃ g cap, v = .slice (some ⟨g, 0, none⟩) rs.length cap ∧ base ≤ g := by
  rcases h.2 with ⟨_, h0⟩ | ⟨g, cap, cur, hv, hb, _⟩
  · omega
  · exact ⟨g, cap, hv, hb⟩
theorem set_at {rs : List Ct} {i k : Nat} (x : Ct) (h : i ≠ k) : at_ (rs.set i x) k = at_ rs k := by
  unfold at_
  rw [List.getD_eq_getElem?_getD, List.getD_eq_getElem?_getD, List.getElem?_set_ne h]
theorem own_none (w : World) (b : Nat) (hb : b ≤ w.heap.size) : Own (w.alloc (.cells #[] 70)) b (.slice (some ⟨w.heap.size, 0, none⟩) 0 0) [] := World.ownsRow_made w #[] 0 hb (Nat.zero_le _) rfl
/-- The place of an Id. -/
def pl (rs : List Ct) (id : Int) : Nat := rs.findIdx (fun r => decide (id ≤ r.co))
theorem pl_le (rs : List Ct) (id : Int) : pl rs id ≤ rs.length := List.findIdx_le_length
theorem plc_pl {rs : List Ct} (h : Asc rs) (id : Int) : Plc rs id (pl rs id) := by
  obtain ⟨k, hk⟩ := asc_plc h id
  have e : pl rs id = k := hk.unique (pl_le rs id) (fun t ht => by
    have hl : t < rs.length := Nat.lt_of_lt_of_le ht (pl_le rs id)
    have := List.not_of_lt_findIdx ht
    rw [at_lt hl]
    simp at this
    omega) (fun t h1 h2 => by
    have hkl : pl rs id < rs.length := by omega
    have h3 := List.findIdx_getElem (w := hkl)
    have h3' : id ≤ (at_ rs (pl rs id)).co := by rw [at_lt hkl]; exact of_decide_eq_true h3
    rcases Nat.lt_or_ge (pl rs id) t with h4 | h4
    · have := h.lt h4 h2; omega
    · have : t = pl rs id := by omega
      rw [this]; exact h3')
  rw [e]; exact hk
/-- The list with one more. -/
def insR (rs : List Ct) (x : Ct) : List Ct := rs.take (pl rs x.co) ++ [x] ++ rs.drop (pl rs x.co)
theorem ins_len (rs : List Ct) (x : Ct) : (insR rs x).length = rs.length + 1 := by
  have := pl_le rs x.co
  unfold insR
  simp only [List.length_append, List.length_take, List.length_drop, List.length_cons, List.length_nil]
  omega
theorem all_at {P : Ct → Prop} {rs : List Ct} : (∀ i, i < rs.length → P (at_ rs i)) ↔ ∀ r, r ∈ rs → P r := by
  constructor
  · intro h r hr
    obtain ⟨i, hi, rfl⟩ := List.mem_iff_getElem.1 hr
    rw [← at_lt hi]
    exact h i hi
  · intro h i hi
    rw [at_lt hi]
    exact h _ (List.getElem_mem hi)
theorem ins_all {P : Ct → Prop} {rs : List Ct} {x : Ct} (h : ∀ i, i < rs.length → P (at_ rs i)) (hx : P x) : ∀ i, i < (insR rs x).length → P (at_ (insR rs x) i) := by
  rw [all_at] at h ⊢
  intro r hr
  unfold insR at hr
  rcases List.mem_append.1 hr with h1 | h1
  · rcases List.mem_append.1 h1 with h2 | h2
    · exact h r (List.mem_of_mem_take h2)
    · obtain rfl : r = x := by simpa using h2
      exact hx
  · exact h r (List.mem_of_mem_drop h1)
theorem clone_all (a : Option Addr) (cap : Nat) (rs : List Ct) (hl : rs.length ≤ 1048576) (w : World) (hr : Row w a rs) :
    Calls Try.prog 104 #[.slice a rs.length cap] w fun e w' => ∃ v, e = .returned v ∧ Own w' w.heap.size v rs ∧ Below w.heap.size w w' := by
  cases a with
  | some ad => exact clone_any ad cap rs hl w hr
  | none =>
    have h0 : rs = [] := by
      rcases hr with h | ⟨b, off, e, _⟩
      · exact List.eq_nil_of_length_eq_zero h
      · cases e
    subst h0
    have q22 : ∀ (w : World) (a : Option Addr) (n c n' c' : Nat), (binOp .eql 27 (.slice a n c) (.slice none n' c')).run Try.prog w = .ok (.bool a.isNone) w := fun w a n c n' c' => Lib.run_eql_slice_nil w _ _ a n c n' c' Try.underlying27
    clear hr
    go_enter Try.func104, Try.ntmps104
    go_wp2
    go_ret
    exact ⟨_, rfl, World.ownsRow_nil _ _ _ _, Below.refl _ _⟩

theorem cells_ce (z : Int) : ∀ (fs : List Ct) (k : Nat), k < fs.length → cells (fs.set k { at_ fs k with ce := z }) = (cells fs).set (k * 2 + 1) (.int .i64 z)
  | [], k, h => absurd h (Nat.not_lt_zero _)
  | f :: r, 0, _ => by simp [cells, at_]
  | f :: r, k + 1, h => by
    rw [List.set_cons_succ, show at_ (f :: r) (k + 1) = at_ r k from rfl, cells, cells_ce z r k (by simpa using h), cells, show (k + 1) * 2 + 1 = k * 2 + 1 + 2 by omega]
    simp only [List.set_cons_succ]
theorem own_ce {w : World} {base g n cap : Nat} {rs : List Ct} (h : Own w base (.slice (some ⟨g, 0, none⟩) n cap) rs) (hn : rs.length = n) {k : Nat} (hk : k < n) (z : Int) :
    Own (w.setCell ⟨g, k * 2 + 1, none⟩ (.int .i64 z)) base (.slice (some ⟨g, 0, none⟩) n cap) (rs.set k { at_ rs k with ce := z }) := by
  unfold Own at h ⊢
  rw [cells_ce z rs k (by omega), List.length_set, hn]
  rw [hn] at h
  exact (World.ownsRow.stored h (k * 2 + 1) (.int .i64 z)).1
theorem own_ge {w : World} {base b : Nat} {v : Value} {rs : List Ct} (h : Own w base v rs) (e : v.ownBlock = some b) : base ≤ b := (World.ownsRow.lt h b e).1
theorem own_lt {w : World} {base b : Nat} {v : Value} {rs : List Ct} (h : Own w base v rs) (e : v.ownBlock = some b) : b < w.heap.size := (World.ownsRow.lt h b e).2
theorem blk_grown {w w' : World} {g : Nat} {t : TypeId} {cs : Array Value} {r : Option Nat} (h : Blk w g t cs) (hg : w.grownBy w' r) (hr : r ≠ some g) : Blk w' g t cs := (hg.block g h.lt (fun e => hr e.symm)).trans h
end Go.Proofs.Ytdfmfmndmldggaa.CoB
