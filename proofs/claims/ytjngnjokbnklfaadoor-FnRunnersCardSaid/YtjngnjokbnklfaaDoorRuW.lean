/- SwapCards: both texts. -/
import Derived.Test.YtjngnjokbnklfaaDoorRuP
import Derived.Test.YtjngnjokbnklfaaDoorRuN
import Derived.BigRegion
import Derived.Shelf.Abstract
import Derived.Lib.SliceRun
import Derived.OwnWalk
import Derived.Maps.AppendAt
namespace Go.Proofs.YtjngnjokbnklfaaDoor.RuW
open Go.RowKit Lb Bk InA Wd RuK RuI RuU RuA RuG RuC RuP
set_option linter.unusedSimpArgs false
set_option linter.unusedVariables false

set_option maxRecDepth 20000 in
set_option maxHeartbeats 1000000 in
theorem clone_any (ad : Addr) (cap : Nat) (rs : List Ru) (hl : rs.length ≤ 1048576) (w : World) (hr : Row w (some ad) rs) :
    Calls Tryd.prog 44 #[.slice (some ad) rs.length cap] w fun e w' => ∃ v, e = .returned v ∧ Own w' w.heap.size v rs ∧ Below w.heap.size w w' := by
  obtain ⟨t0, hi, hz0, hz1, hz2⟩ := info_parts info
  have hB := (Below.refl w.heap.size w).alloc (Nat.le_refl _) (.cells #[] 25)
  have HB := Lib.hid hB
  have HN := Lib.hid (Row.news (hr.later hB))
  have hown := Own.empty w
  unfold Own at hown
  obtain ⟨n, hn⟩ : ∃ n, rs.length = n := ⟨_, rfl⟩
  have HNl := Lib.hid hn
  have hcl : (cells rs).length = n * 6 := by rw [cells_len, hn]
  rw [hn] at hl ⊢
  have q22 : ∀ (w : World) (a : Option Addr) (n c n' c' : Nat), (binOp .eql 33 (.slice a n c) (.slice none n' c')).run Tryd.prog w = .ok (.bool a.isNone) w := fun w a n c n' c' => Lib.run_eql_slice_nil w _ _ a n c n' c' Tryd.underlying33
  clear hr hB hn
  go_enter Tryd.func44, Tryd.ntmps44
  go_wp2_with (go_loud (at_builtin; (refine wpList_append_own _ rfl (.tmp 5) (.tmp 6) 33 rfl w.heap.size 25 t0 (.agg #[.int .i64 no.id, .string no.nm, .string no.cl, .int .i64 no.bo, .bool no.wo, .int .i64 no.ca]) 6 64 Tryd.underlying33 hi hz0 hz1 hz2 rfl (by decide) _ 0 _ rfl hown ad n cap (cells rs) rfl hcl HN.out (cells_one rs) (by unfold maxLen; omega) (by omega) HB.out.size ?_; intro v' w3 hown3 hgr3 _; have HO := Lib.hid (show Own w3 w.heap.size v' ([] ++ rs) from Own.cat rfl HNl.out hown3); have HB3 := Lib.hid (HB.out.grown (show World.grownBy _ w3 (some w.heap.size) from hgr3) HB.out.size (fun q e => by cases e; exact Nat.le_refl _)); clear hown3 hgr3)))
  go_ret
  exact ⟨_, rfl, HO.out, HB3.out⟩

theorem cells_ca (z : Int) : ∀ (fs : List Ru) (k : Nat), k < fs.length → cells (fs.set k { at_ fs k with ca := z }) = (cells fs).set (k * 6 + 5) (.int .i64 z)
  | [], k, h => absurd h (Nat.not_lt_zero _)
  | f :: r, 0, _ => by simp [cells, at_]
  | f :: r, k + 1, h => by
    rw [List.set_cons_succ, show at_ (f :: r) (k + 1) = at_ r k from rfl, cells, cells_ca z r k (by simpa using h), cells, show (k + 1) * 6 + 5 = k * 6 + 5 + 6 by omega]
    simp only [List.set_cons_succ]
theorem own_some {w : World} {base : Nat} {v : Value} {rs : List Ru} (h : Own w base v rs) (hp : 0 < rs.length) : ∃ g cap, v = .slice (some ⟨g, 0, none⟩) rs.length cap ∧ base ≤ g := by
  rcases h.2 with ⟨_, h0⟩ | ⟨g, cap, cur, hv, hb, _⟩
  · omega
  · exact ⟨g, cap, hv, hb⟩
theorem own_ca {w : World} {base g n cap : Nat} {rs : List Ru} (h : Own w base (.slice (some ⟨g, 0, none⟩) n cap) rs) (hn : rs.length = n) {k : Nat} (hk : k < n) (z : Int) :
    Own (w.setCell ⟨g, k * 6 + 5, none⟩ (.int .i64 z)) base (.slice (some ⟨g, 0, none⟩) n cap) (rs.set k { at_ rs k with ca := z }) := by
  unfold Own at h ⊢
  rw [cells_ca z rs k (by omega), List.length_set, hn]
  rw [hn] at h
  exact (World.ownsRow.stored h (k * 6 + 5) (.int .i64 z)).1

/-- The cards exchanged. -/
def swL (rs : List Ru) (i k : Nat) : List Ru := (rs.set i { at_ rs i with ca := (at_ rs k).ca }).set k { at_ rs k with ca := (at_ rs i).ca }
theorem sw_len (rs : List Ru) (i k : Nat) : (swL rs i k).length = rs.length := by simp [swL]
theorem set_at {rs : List Ru} {i k : Nat} (x : Ru) (h : i ≠ k) : at_ (rs.set i x) k = at_ rs k := by
  unfold at_
  rw [List.getD_eq_getElem?_getD, List.getD_eq_getElem?_getD, List.getElem?_set_ne h]
def LPost (w : World) (ss : List Ru) (ok : Bool) (e : Ending) (w' : World) : Prop := ∃ v, e = .returned (.tuple #[v, .bool ok]) ∧ Own w' w.heap.size v ss ∧ Below w.heap.size w w'
theorem own_none (w : World) (b : Nat) (hb : b ≤ w.heap.size) : Own (w.alloc (.cells #[] 25)) b (.slice (some ⟨w.heap.size, 0, none⟩) 0 0) [] := World.ownsRow_made w #[] 0 hb (Nat.zero_le _) rfl

set_option maxRecDepth 20000 in
set_option maxHeartbeats 4000000 in
theorem swap_no (rs : List Ru) (hf : ∀ i, i < rs.length → Is (at_ rs i)) (hl : rs.length ≤ 1048576) (a b : Int)
    (h : goodB rs = false ∨ a = b ∨ ∃ i k, Plc rs a i ∧ Plc rs b k ∧ Asc rs ∧ (fndB rs a i = false ∨ fndB rs b k = false)) (ad : Option Addr) (cap : Nat) (w : World) (hc : rs.length ≤ cap) (hr : Row w ad rs) :
    Calls Tryd.prog 20 #[.slice ad rs.length cap, .int .i64 a, .int .i64 b] w (LPost w [] false) := by
  have H := Lib.hid hr
  have hml : rs.length ≤ maxLen := by unfold maxLen; omega
  obtain ⟨g, hg⟩ : ∃ g, goodB rs = g := ⟨_, rfl⟩
  have c1 := Lib.hid (fun w hr => hg ▸ RuA.impl_any ad cap rs w hc hr hf hml)
  cases g with
  | false =>
    clear hr hf hg h
    go_enter Tryd.func20, Tryd.ntmps20
    go_wp2_with fail
    refine (c1.out _ H.out).mono ?_
    rintro e w1 ⟨rfl, hb⟩
    have HB1 := Lib.hid hb
    clear hb
    go_wp2
    go_ret2
    exact ⟨_, rfl, own_none w1 w.heap.size HB1.out.size, HB1.out.alloc HB1.out.size _⟩
  | true =>
    by_cases hab : a = b
    · have hab' : (a == b) = true := by simpa using hab
      clear hr hf hg h hab
      go_enter Tryd.func20, Tryd.ntmps20
      go_wp2_with fail
      refine (c1.out _ H.out).mono ?_
      rintro e w1 ⟨rfl, hb⟩
      have HB1 := Lib.hid hb
      clear hb
      go_wp2
      go_ret2
      exact ⟨_, rfl, own_none w1 w.heap.size HB1.out.size, HB1.out.alloc HB1.out.size _⟩
    · obtain ⟨i, k, hi, hk, hasc, hno⟩ : ∃ i k, Plc rs a i ∧ Plc rs b k ∧ Asc rs ∧ (fndB rs a i = false ∨ fndB rs b k = false) := by
        rcases h with h | h | h
        · rw [hg] at h; cases h
        · exact absurd h hab
        · exact h
      obtain ⟨f1, hf1⟩ : ∃ f, fndB rs a i = f := ⟨_, rfl⟩
      obtain ⟨f2, hf2⟩ : ∃ f, fndB rs b k = f := ⟨_, rfl⟩
      have c2 := Lib.hid (fun w hr => hf1 ▸ place_any rs hl hasc a i hi ad cap w hr)
      have c3 := Lib.hid (fun w hr => hf2 ▸ place_any rs hl hasc b k hk ad cap w hr)
      rw [hf1, hf2] at hno
      have hab' : (a == b) = false := by simpa using hab
      clear hr hf hg h hab hi hk hasc hf1 hf2
      go_enter Tryd.func20, Tryd.ntmps20
      go_wp2_with fail
      refine (c1.out _ H.out).mono ?_
      rintro e w1 ⟨rfl, hb⟩
      have HB1 := Lib.hid hb
      clear hb
      go_wp2_with fail
      refine (c2.out _ (H.out.later HB1.out)).mono ?_
      rintro e w2 ⟨rfl, hb⟩
      have HB2 := Lib.hid (HB1.out.trans (hb.mono HB1.out.size))
      clear hb
      go_wp2_with fail
      refine (c3.out _ (H.out.later HB2.out)).mono ?_
      rintro e w3 ⟨rfl, hb⟩
      have HB3 := Lib.hid (HB2.out.trans (hb.mono HB2.out.size))
      clear hb
      cases f1 with
      | false =>
        go_wp2
        go_ret2
        exact ⟨_, rfl, own_none w3 w.heap.size HB3.out.size, HB3.out.alloc HB3.out.size _⟩
      | true =>
        obtain rfl : f2 = false := by rcases hno with h | h; cases h; exact h
        go_wp2
        go_ret2
        exact ⟨_, rfl, own_none w3 w.heap.size HB3.out.size, HB3.out.alloc HB3.out.size _⟩

set_option maxRecDepth 20000 in
set_option maxHeartbeats 4000000 in
theorem swap_yes (rs : List Ru) (hf : ∀ i, i < rs.length → Is (at_ rs i)) (hl : rs.length ≤ 1048576) (a b : Int) (hg : goodB rs = true) (hab : a ≠ b) (i k : Nat) (hi : Plc rs a i) (hk : Plc rs b k) (h1 : fndB rs a i = true) (h2 : fndB rs b k = true)
    (ad : Option Addr) (cap : Nat) (w : World) (hc : rs.length ≤ cap) (hr : Row w ad rs) :
    Calls Tryd.prog 20 #[.slice ad rs.length cap, .int .i64 a, .int .i64 b] w (LPost w (swL rs i k) true) := by
  have H := Lib.hid hr
  have hml : rs.length ≤ maxLen := by unfold maxLen; omega
  have hasc := good_asc hg
  have c1 := Lib.hid (fun w hr => hg ▸ RuA.impl_any ad cap rs w hc hr hf hml)
  have c2 := Lib.hid (fun w hr => h1 ▸ place_any rs hl hasc a i hi ad cap w hr)
  have c3 := Lib.hid (fun w hr => h2 ▸ place_any rs hl hasc b k hk ad cap w hr)
  obtain ⟨hil, hia⟩ := of_decide_eq_true h1
  obtain ⟨hkl, hkb⟩ := of_decide_eq_true h2
  have hik : i ≠ k := fun e => hab (by rw [← hia, ← hkb, e])
  have hab' : (a == b) = false := by simpa using hab
  obtain ⟨adx, rfl⟩ : ∃ x, ad = some x := by
    rcases hr with h0 | ⟨b', off, e, _⟩
    · omega
    · exact ⟨_, e⟩
  have c4 := Lib.hid (fun w hr => clone_any adx cap rs hl w hr)
  obtain ⟨vi, hvi⟩ : ∃ z, (at_ rs i).ca = z := ⟨_, rfl⟩
  obtain ⟨vk, hvk⟩ : ∃ z, (at_ rs k).ca = z := ⟨_, rfl⟩
  have HS := Lib.hid (show (rs.set i { at_ rs i with ca := vk }).set k { at_ (rs.set i { at_ rs i with ca := vk }) k with ca := vi } = swL rs i k from by
    rw [set_at _ hik, ← hvi, ← hvk]; rfl)
  obtain ⟨n, hn⟩ : ∃ n, rs.length = n := ⟨_, rfl⟩
  have HN := Lib.hid hn
  have HVi := Lib.hid hvi
  have HVk := Lib.hid hvk
  rw [hn] at hl hml hil hkl c1 c2 c3 c4 ⊢
  have hi0 : (0 : Int) ≤ (i : Int) := by omega
  have hk0 : (0 : Int) ≤ (k : Int) := by omega
  have hi1 : (i : Int) < (n : Int) := by omega
  have hk1 : (k : Int) < (n : Int) := by omega
  have hne : i * 6 + 5 ≠ k * 6 + 5 := by omega
  have hne' : k * 6 + 5 ≠ i * 6 + 5 := by omega
  clear hr hf hg hab hi hk hasc h1 h2 hia hkb hn hvi hvk hc
  go_enter Tryd.func20, Tryd.ntmps20
  go_wp2_with fail
  refine (c1.out _ H.out).mono ?_
  rintro e w1 ⟨rfl, hb⟩
  have HB1 := Lib.hid hb
  clear hb
  go_wp2_with fail
  refine (c2.out _ (H.out.later HB1.out)).mono ?_
  rintro e w2 ⟨rfl, hb⟩
  have HB2 := Lib.hid (HB1.out.trans (hb.mono HB1.out.size))
  clear hb HB1
  go_wp2_with fail
  refine (c3.out _ (H.out.later HB2.out)).mono ?_
  rintro e w3 ⟨rfl, hb⟩
  have HB3 := Lib.hid (HB2.out.trans (hb.mono HB2.out.size))
  clear hb HB2
  go_wp2_with fail
  refine (c4.out _ (H.out.later HB3.out)).mono ?_
  rintro e w4 ⟨v, rfl, ho, hb⟩
  obtain ⟨g, cp, rfl, hgb⟩ := own_some ho (by rw [HN.out]; omega)
  rw [HN.out] at ho ⊢
  have HB4 := Lib.hid (HB3.out.trans (hb.mono HB3.out.size))
  have HO := Lib.hid (ho.rebase HB3.out.size)
  have hgw : w.heap.size ≤ g := Nat.le_trans HB3.out.size hgb
  clear hb HB3 ho hgb
  have HR := Lib.hid (show w4.ownsRow w.heap.size 25 6 (.slice (some ⟨g, 0, none⟩) n cp) n (cells rs) from by have h := HO.out; unfold Own at h; rw [HN.out] at h; exact h)
  have ci : w4.cell? ⟨g, i * 6 + 5, none⟩ = some (.int .i64 vi) := by
    rw [HR.out.cellAt _ (by omega), cells_at rs i (by rw [HN.out]; exact hil) 5 (by omega), ← HVi.out]; rfl
  have ck : w4.cell? ⟨g, k * 6 + 5, none⟩ = some (.int .i64 vk) := by
    rw [HR.out.cellAt _ (by omega), cells_at rs k (by rw [HN.out]; exact hkl) 5 (by omega), ← HVk.out]; rfl
  have fi : w4.frozen? ⟨g, i * 6 + 5, none⟩ = false := HR.out.frozenAt _
  have fk : w4.frozen? ⟨g, k * 6 + 5, none⟩ = false := HR.out.frozenAt _
  have HP := Lib.hid (own_ca (own_ca HO.out HN.out hil vk) (by rw [List.length_set, HN.out]) hkl vi)
  go_upto_region 8 with (fail)
  go_region
  all_goals
    go_wp2
    go_ret2
    refine ⟨_, rfl, ?_, ?_⟩
    · have h := HP.out
      rw [HS.out] at h
      first | exact h | (rw [World.setCell_comm] at h; exact h)
    · first
        | exact (Below.setCell (p := ⟨g, k * 6 + 5, none⟩) (Below.setCell (p := ⟨g, i * 6 + 5, none⟩) HB4.out hgw _) hgw _).drew
        | exact (Below.setCell (p := ⟨g, i * 6 + 5, none⟩) (Below.setCell (p := ⟨g, k * 6 + 5, none⟩) HB4.out hgw _) hgw _).drew

end Go.Proofs.YtjngnjokbnklfaaDoor.RuW
