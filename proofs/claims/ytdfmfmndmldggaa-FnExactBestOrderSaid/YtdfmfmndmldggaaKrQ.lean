/- Lists of Controls: a part of a list that is sorted, one that is taken out: laws of the library's functions. -/
import Derived.Test.YtdfmfmndmldggaaCtZ
import Derived.Test.YtdfmfmndmldggaaCoP
import Derived.Shelf.RegionOpenPlain
import Derived.Deep.RegionLaw
import Derived.Deep.LoopGhost
import Derived.Lib.SliceRun
import Derived.BigRegion
namespace Go.Proofs.Ytdfmfmndmldggaa.KrQ
open Go.RowKit Lb Bk CtK CtZ Go.Sort CoP
set_option linter.unusedSimpArgs false
set_option linter.unusedVariables false

/-- The cells of a row of the call's own, raw. -/
theorem own_raw {w : World} {base g n cap : Nat} {rs : List Ct} (h : Own w base (.slice (some ⟨g, 0, none⟩) n cap) rs) (hn : rs.length = n) {k : Nat} (hk : k < n * 2) : w.cell? ⟨g, k, none⟩ = (cells rs)[k]? ∧ w.frozen? ⟨g, k, none⟩ = false := by
  unfold Own at h
  rw [hn] at h
  exact ⟨h.cellAt k hk, h.frozenAt k⟩
theorem row_of {w : World} {g : Nat} {rs : List Ct} (h : ∀ k, k < rs.length * 2 → w.cell? ⟨g, k, none⟩ = (cells rs)[k]?) : Row w (some ⟨g, 0, none⟩) rs := by
  refine .inr ⟨g, 0, rfl, fun i hi j hj => ?_⟩
  rw [Nat.zero_add, h _ (by omega), cells_at rs i hi j hj]
theorem gr_set (w : World) (g o : Nat) (v : Value) : w.grownBy (w.setCell ⟨g, o, none⟩ v) (some g) := ⟨rfl, rfl, rfl, by simp, fun k hk hne => Below.heap_setCell w ⟨g, o, none⟩ v k (fun e => hne (by rw [e]))⟩
theorem gr_trans {a b c : World} {r : Option Nat} (h : a.grownBy b r) (k : b.grownBy c r) : a.grownBy c r := IntS.grownBy_trans h k
theorem gr_sets (g : Nat) : ∀ (vs : List Value) (o : Nat) (w : World), w.grownBy (w.setCells g o vs) (some g)
  | [], _, _ => World.grownBy.refl _ _
  | v :: r, o, w => gr_trans (gr_set w g o v) (gr_sets g r (o + 1) _)

/-- The cells behind a sort of a part. -/
theorem cell_s {w : World} {g m off : Nat} {os : Array Obj} (F : Array Value) {k : Nat} {u : Value} (hg : g < w.heap.size) (hc : w.cell? ⟨g, k, none⟩ = some u) :
    (grow (putRow id (Sort.ahead w m) g off F) os).cell? ⟨g, k, none⟩ = some (if off ≤ k ∧ k < off + F.size then F[k - off]! else u) := by
  have hb : ∃ cur e fr, w.heap[g]? = some (.cells cur e fr) ∧ cur[k]? = some u := by
    simp only [World.cell?] at hc
    revert hc
    cases hh : w.heap[g]? with
    | none => intro hc; simp at hc
    | some o =>
      cases o with
      | cells cur e fr =>
        intro hc
        exact ⟨cur, e, fr, rfl, by simpa using hc⟩
      | _ => intro hc; simp at hc
  obtain ⟨cur, e, fr, hb, hk⟩ := hb
  have hh : (grow (putRow id (Sort.ahead w m) g off F) os).heap[g]? = some (.cells (putCells id off F cur) e fr) := by
    rw [heap_grow_old _ _ (by simpa using hg)]
    simp [putRow, mapBlock, Sort.ahead, Array.getElem?_modify, hb, onCells]
  simp only [World.cell?, hh]
  simp [putCells, hk]
theorem grown_any {w : World} {g m off : Nat} {os : Array Obj} (F : Array Value) : w.grownBy (grow (putRow id (Sort.ahead w m) g off F) os) (some g) := by
  refine ⟨rfl, rfl, rfl, by simp, fun k hk hne => ?_⟩
  rw [heap_grow_old _ _ (by simpa using hk)]
  have : g ≠ k := fun e => hne (by rw [e])
  simp [putRow, mapBlock, Sort.ahead, Array.getElem?_modify, this]
theorem cells_three (pre mid post : List Ct) {k : Nat} (hk : k < (pre ++ mid ++ post).length * 2) (gs : List Ct) (hg : gs.length = mid.length) :
    (cells (pre ++ gs ++ post))[k]? = some (if pre.length * 2 ≤ k ∧ k < pre.length * 2 + mid.length * 2 then (cells gs)[k - pre.length * 2]! else ((cells (pre ++ mid ++ post))[k]?).getD default) := by
  have e1 := cells_len pre
  have e2 := cells_len mid
  have e3 := cells_len gs
  have e4 := cells_len post
  rw [cells_cat, cells_cat, cells_cat, cells_cat]
  simp only [List.length_append] at hk
  by_cases h1 : k < pre.length * 2
  · rw [if_neg (by omega), List.append_assoc, List.append_assoc, List.getElem?_append_left (by omega), List.getElem?_append_left (by omega)]
    rw [List.getElem?_eq_getElem (by omega)]
    rfl
  · by_cases h2 : k < pre.length * 2 + mid.length * 2
    · rw [if_pos ⟨by omega, h2⟩, List.append_assoc, List.getElem?_append_right (by omega), e1, List.getElem?_append_left (by omega), List.getElem?_eq_getElem (by omega)]
      rw [getElem!_pos _ _ (by omega)]
    · rw [if_neg (by omega), List.getElem?_append_right (by rw [List.length_append]; omega), List.getElem?_append_right (by rw [List.length_append]; omega)]
      rw [List.length_append, List.length_append, e3, hg, e2]
      rw [List.getElem?_eq_getElem (by omega)]
      rfl

theorem sort_sub (g : Nat) (cf : Ct → Ct → Int) (hO : SWO (ltOf cf)) (eg : ∀ args w, (callFunc g args).run Try.prog w = .ok (.enter g args) w)
    (hcmp : ∀ x y W, Calls Try.prog g #[.agg #[.int .i64 x.co, .int .i64 x.ce], .agg #[.int .i64 y.co, .int .i64 y.ce]] W fun e w' => e = .returned (.int .i64 (cf x y)) ∧ ∃ q os', w' = grow (W.drewN q) os')
    (base b n cap c : Nat) (pre mid post : List Ct) (w : World) (h : Own w base (.slice (some ⟨b, 0, none⟩) n cap) (pre ++ mid ++ post)) (hn : (pre ++ mid ++ post).length = n) (hl : n ≤ 1048576) :
    Calls Try.prog 75 #[.slice (some ⟨b, pre.length * 2, none⟩) mid.length c, .func (.func g) #[] #[]] w fun e w' =>
      e = .returned (.tuple #[]) ∧ ∃ gs : List Ct, gs.length = mid.length ∧ gs.Perm mid ∧ (∀ i j, i < j → j < gs.length → ltOf cf (at_ gs j) (at_ gs i) = false) ∧ Row w' (some ⟨b, 0, none⟩) (pre ++ gs ++ post) ∧ w.grownBy w' (some b) := by
  rcases Nat.eq_zero_or_pos mid.length with h0 | h0
  · have C := AnyF.slices_SortFunc_none Try.sortCt (some ⟨b, pre.length * 2, none⟩) c (.func (.func g) #[] #[]) w
    rw [h0]
    refine C.mono ?_
    rintro e w' ⟨rfl, rfl⟩
    refine ⟨rfl, mid, h0, List.Perm.refl _, fun i j hij hj => by omega, row_of fun k hk => (own_raw h hn (by rw [← hn]; exact hk)).1, World.grownBy.refl _ _⟩
  · have hlen : (pre ++ mid ++ post).length = pre.length + mid.length + post.length := by simp only [List.length_append]
    have hraw := fun {k : Nat} (hk : k < n * 2) => own_raw h hn hk
    obtain ⟨-, -, hb⟩ : True ∧ True ∧ b < w.heap.size := ⟨trivial, trivial, by
      have := (hraw (k := 0) (by omega)).1
      rw [List.getElem?_eq_getElem (by rw [cells_len]; omega)] at this
      exact World.block_lt_of_cell? w _ this⟩
    have hH : HoldsK enc 2 w b (pre.length * 2) mid.toArray := by
      intro j hj
      rw [size_flatK] at hj
      have hj' : j < mid.length * 2 := by simpa using hj
      have hr := hraw (k := pre.length * 2 + j) (by omega)
      refine ⟨?_, hr.2⟩
      rw [hr.1, cells_cat, cells_cat, List.append_assoc, List.getElem?_append_right (by rw [cells_len]; omega), cells_len, Nat.add_sub_cancel_left, List.getElem?_append_left (by rw [cells_len]; omega), ← flat mid]
      rw [Array.getElem?_toList, getElem!_pos _ j (by rw [size_flatK]; exact hj), Array.getElem?_eq_getElem (by rw [size_flatK]; exact hj)]
      rfl
    have C := AnyQ.slices_SortFunc Try.sortCt 2 Try.isAgg70 Try.sizeOf70 enc enc_len enc_one cf hO g #[] b (pre.length * 2) c mid.toArray w eg
      (fun m os dk _ x y => by
        have := hcmp x y (sortWorldK enc 2 w b (pre.length * 2) m dk os)
        exact this) hH hb (by simp; omega)
    rw [show mid.toArray.size = mid.length from by simp] at C
    refine C.mono ?_
    rintro e w' ⟨rfl, d', m, os, hp, hs, rfl⟩
    have e1 : d'.size = mid.length := by have := hp.1; simpa using this
    have e2 : d'.toList.length = mid.length := by simpa using e1
    have hperm : d'.toList.Perm mid := by
      have := hp.2.2
      rw [show d'.extract 0 mid.length = d' from by rw [← e1]; simp, show mid.toArray.extract 0 mid.length = mid.toArray from by simp] at this
      exact this
    refine ⟨rfl, d'.toList, e2, hperm, fun i j hij hj => ?_, ?_, ?_⟩
    · have := hs i j (Nat.zero_le _) hij (by simpa using (by simpa [e1] using hj : j < mid.length))
      rw [← CtZ.get_at, ← CtZ.get_at, Array.toArray_toList]
      exact this
    · refine row_of fun k hk => ?_
      have hk' : k < (pre ++ mid ++ post).length * 2 := by simp only [List.length_append] at hk ⊢; omega
      have hr := (hraw (k := k) (by omega)).1
      have hu : (cells (pre ++ mid ++ post))[k]? = some (((cells (pre ++ mid ++ post))[k]?).getD default) := by
        rw [List.getElem?_eq_getElem (by rw [cells_len]; exact hk')]
        rfl
      have hr2 : w.cell? ⟨b, k, none⟩ = some (((cells (pre ++ mid ++ post))[k]?).getD default) := hr.trans hu
      show (grow (putRow id (Sort.ahead w m) b (pre.length * 2) (flatK enc 2 d')) os).cell? ⟨b, k, none⟩ = _
      rw [cell_s (flatK enc 2 d') hb hr2, cells_three pre mid post hk' d'.toList e2, size_flatK, e1]
      congr 1
      by_cases hc : pre.length * 2 ≤ k ∧ k < pre.length * 2 + mid.length * 2
      · have hq : k - pre.length * 2 < (flatK enc 2 d').size := by rw [size_flatK, e1]; omega
        rw [if_pos hc, if_pos hc, ← flat d'.toList, Array.toArray_toList, getElem!_pos (flatK enc 2 d') (k - pre.length * 2) hq, List.getElem!_eq_getElem?_getD, Array.getElem?_toList, Array.getElem?_eq_getElem hq]
        rfl
      · rw [if_neg hc, if_neg hc]
    · exact grown_any (flatK enc 2 d')
end Go.Proofs.Ytdfmfmndmldggaa.KrQ
