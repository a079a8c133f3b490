/- SwapCards: both texts. -/
import Derived.Test.YtjngnjokbnklfaaRuP
import Derived.Test.YtjngnjokbnklfaaRuN
import Derived.BigRegion
import Derived.Shelf.Abstract
import Derived.Lib.SliceRun
import Derived.OwnWalk
import Derived.Maps.AppendAt
namespace Go.Proofs.Ytjngnjokbnklfaa.RuW
open Go.RowKit Lb Bk InA Wd RuK RuI RuU RuA RuG RuC RuP
set_option linter.unusedSimpArgs false
set_option linter.unusedVariables false

set_option maxRecDepth 20000 in
set_option maxHeartbeats 1000000 in
theorem clone_any (ad : Addr) (cap : Nat) (rs : List Ru) (hl : rs.length ≤ 1048576) (w : World) (hr : Row w (some ad) rs) :
    Calls Try.prog 108 #[.slice (some ad) rs.length cap] w fun e w' => ∃ v, e = .returned v ∧ Own w' w.heap.size v rs ∧ Below w.heap.size w w' := by
  obtain ⟨t0, hi, hz0, hz1, hz2⟩ := info_parts info
  have hB := (Below.refl w.heap.size w).alloc (Nat.le_refl _) (.cells #[] 70)
  have HB := Lib.hid hB
  have HN := Lib.hid (Row.news (hr.later hB))
  have hown := Own.empty w
  unfold Own at hown
  obtain ⟨n, hn⟩ : ∃ n, rs.length = n := ⟨_, rfl⟩
  have HNl := Lib.hid hn
  have hcl : (cells rs).length = n * 6 := by rw [cells_len, hn]
  rw [hn] at hl ⊢
  have q22 : ∀ (w : World) (a : Option Addr) (n c n' c' : Nat), (binOp .eql 48 (.slice a n c) (.slice none n' c')).run Try.prog w = .ok (.bool a.isNone) w := fun w a n c n' c' => Lib.run_eql_slice_nil w _ _ a n c n' c' Try.underlying48
  clear hr hB hn
  go_enter Try.func108, Try.ntmps108
  go_wp2_with (go_loud (at_builtin; (refine wpList_append_own _ rfl (.tmp 5) (.tmp 6) 48 rfl w.heap.size 70 t0 (.agg #[.int .i64 no.id, .string no.nm, .string no.cl, .int .i64 no.bo, .bool no.wo, .int .i64 no.ca]) 6 64 Try.underlying48 hi hz0 hz1 hz2 rfl (by decide) _ 0 _ rfl hown ad n cap (cells rs) rfl hcl HN.out (cells_one rs) (by unfold maxLen; omega) (by omega) HB.out.size ?_; intro v' w3 hown3 hgr3 _; have HO := Lib.hid (show Own w3 w.heap.size v' ([] ++ rs) from Own.cat rfl HNl.out hown3); have HB3 := Lib.hid (HB.out.grown (show World.grownBy _ w3 (some w.heap.size) from hgr3) HB.out.size (fun q e => by cases e; exact Nat.le_refl _)); clear hown3 hgr3)))
  go_ret
  exact ⟨_, rfl, HO.out, HB3.out⟩

theorem cells_ca (z : Int) : ∀ (fs : List Ru) (k : Nat), k < fs.length → cells (fs.set k { at_ fs k with ca := z }) = (cells fs).set (k * 6 + 5) (.int .i64 z)
  | [], k, h => absurd h (Nat.not_lt_zero _)
  | f :: r, 0, _ => by simp [cells, at_]
  | f :: r, k + 1, h => by
    rw [List.set_cons_succ, show at_ (f :: r) (k + 1) = at_ r k from rfl, cells, cells_ca z r k (by simpa using h), cells, show (k + 1) * 6 + 5 = k * 6 + 5 + 6 by omega]
    simp only [List.set_cons_succ]
theorem own_some {w : World} {base : Nat} {v : Value} {rs : List Ru} (h : Own w base v rs) (hp : 0 < rs.length) : ∃ g cap, v = .slice (some ⟨g, 0, none⟩) rs.length cap ∧ base ≤ g := by
  rcases h.2 with ⟨_, h0⟩ | ⟨g, cap, cur, hv, hb, _⟩
  · omega
  · exact ⟨g, cap, hv, hb⟩
theorem own_ca {w : World} {base g n cap : Nat} {rs : List Ru} (h : Own w base (.slice (some ⟨g, 0, none⟩) n cap) rs) (hn : rs.length = n) {k : Nat} (hk : k < n) (z : Int) :
    Own (w.setCell ⟨g, k * 6 + 5, none⟩ (.int .i64 z)) base (.slice (some ⟨g, 0, none⟩) n cap) (rs.set k { at_ rs k with ca := z }) := by
  unfold Own at h ⊢
  rw [cells_ca z rs k (by omega), List.length_set, hn]
  rw [hn] at h
  exact (World.ownsRow.stored h (k * 6 + 5) (.int .i64 z)).1

/-- The cards exchanged. -/
def swL (rs : List Ru) (i k : Nat) : List Ru := (rs.set i { at_ rs i with ca := (at_ rs k).ca }).set k { at_ rs k with ca := (at_ rs i).ca }
theorem sw_len (rs : List Ru) (i k : Nat) : (swL rs i k).length = rs.length := by simp [swL]
theorem set_at {rs : List Ru} {i k : Nat} (x : Ru) (h : i ≠ k) : at_ (rs.set i x) k = at_ rs k := by
  unfold at_
  rw [List.getD_eq_getElem?_getD, List.getD_eq_getElem?_getD, List.getElem?_set_ne h]
def LPost (w : World) (ss : List Ru) (ok : Bool) (e : Ending) (w' : World) : Prop := ∃ v, e = .returned (.tuple #[v, .bool ok]) ∧ Own w' w.heap.size v ss ∧ Below w.heap.size w w'
theorem own_none (w : World) (b : Nat) (hb : b ≤ w.heap.size) : Own (w.alloc (.cells #[] 70)) b (.slice (some ⟨w.heap.size, 0, none⟩) 0 0) [] := World.ownsRow_made w #[] 0 hb (Nat.zero_le _) rfl

end Go.Proofs.Ytjngnjokbnklfaa.RuW
