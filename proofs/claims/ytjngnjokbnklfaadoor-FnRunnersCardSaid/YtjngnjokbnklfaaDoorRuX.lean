/- SwapCards: the model's text. -/
import Derived.Test.YtjngnjokbnklfaaDoorRuW
namespace Go.Proofs.YtjngnjokbnklfaaDoor.RuX
open Go.RowKit Lb Bk InA Wd RuK RuI RuU RuA RuG RuC RuP RuW
set_option linter.unusedSimpArgs false
set_option linter.unusedVariables false

/-- Where an Id stands first, or -1. -/
def fiZ (rs : List Ru) (id : Int) : Int := if rs.findIdx (fun r => r.id == id) < rs.length then (rs.findIdx (fun r => r.id == id) : Nat) else -1
theorem fi_at {rs : List Ru} {id : Int} {k : Nat} (hk : k < rs.length) (h : ∀ j, j < k → (at_ rs j).id ≠ id) (h1 : (at_ rs k).id = id) : fiZ rs id = k := by
  have : rs.findIdx (fun r => r.id == id) = k := by
    rw [List.findIdx_eq hk]
    refine ⟨by rw [← at_lt hk]; simpa using h1, fun j hj => ?_⟩
    have := h j hj
    rw [at_lt (by omega)] at this
    simpa using this
  unfold fiZ
  rw [this, if_pos hk]
theorem fi_no {rs : List Ru} {id : Int} (h : ∀ j, j < rs.length → (at_ rs j).id ≠ id) : fiZ rs id = -1 := by
  unfold fiZ
  rw [if_neg]
  intro hk
  have := List.findIdx_getElem (w := hk)
  have h2 := h _ hk
  rw [at_lt hk] at h2
  simp at this
  exact h2 this

set_option maxHeartbeats 1000000 in
theorem find_any (rs : List Ru) (hl : rs.length ≤ 1048576) (id : Int) (ad : Option Addr) (cap : Nat) (w : World) (hr : Row w ad rs) :
    Calls Tryd.prog 48 #[.slice ad rs.length cap, .int .i64 id] w fun e w' => e = .returned (.int .i64 (fiZ rs id)) ∧ w' = w := by
  have H := Lib.hid hr
  obtain ⟨n, hn⟩ : ∃ n, rs.length = n := ⟨_, rfl⟩
  have HN := Lib.hid hn
  rw [hn] at hl ⊢
  clear hr hn
  go_enter Tryd.func48, Tryd.ntmps48
  go_wp2
  go_loop [5] (fun i => ∃ k : Nat, k ≤ n ∧ i = .int .i64 k ∧ ∀ j, j < k → (at_ rs j).id ≠ id) (fun i => n - (intOf i).toNat)
  case atStart => exact ⟨0, Nat.zero_le _, rfl, fun j hj => absurd hj (Nat.not_lt_zero _)⟩
  case round =>
    obtain ⟨k, hk, rfl, hall⟩ := hrel
    have HA := Lib.hid hall
    clear hall
    by_cases hlt : k < n
    · obtain ⟨b, off, rfl, c0, -⟩ := H.out.cells (i := k) (by rw [HN.out]; exact hlt)
      obtain ⟨z, hz⟩ : ∃ z, (at_ rs k).id = z := ⟨_, rfl⟩
      rw [hz] at c0
      have HZ := Lib.hid hz
      clear hz
      by_cases h1 : z = id
      · have HE := Lib.hid (fi_at (by rw [HN.out]; exact hlt) HA.out (show (at_ rs k).id = id from by rw [HZ.out]; exact h1))
        have h1' : (z == id) = true := by simpa using h1
        clear h1
        go_wp2
        go_ret
        exact ⟨ret_int HE.out.symm, rfl⟩
      · have hp := Lib.hid (show (at_ rs k).id ≠ id from by rw [HZ.out]; exact h1)
        have h1' : (z == id) = false := by simpa using h1
        clear h1
        go_wp2
        go_round
        case rel => exact ⟨k + 1, by omega, by go_num, all_succ (p := fun j => (at_ rs j).id ≠ id) HA.out hp.out⟩
        case measure => simp [intOf]; omega
    · obtain rfl : k = n := by omega
      have HE := Lib.hid (fi_no (rs := rs) (id := id) (by rw [HN.out]; exact HA.out))
      go_wp2
      go_ret
      exact ⟨ret_int HE.out.symm, rfl⟩

/-- In an ascending list the search finds the place. -/
theorem fi_plc {rs : List Ru} {id : Int} {k : Nat} (hp : Plc rs id k) : (fndB rs id k = true → fiZ rs id = k) ∧ (fndB rs id k = false → Asc rs → fiZ rs id = -1) := by
  constructor
  · intro h
    obtain ⟨hk, he⟩ := of_decide_eq_true h
    exact fi_at hk (fun j hj e => by have := hp.2.1 j hj; omega) he
  · intro h hasc
    have hn : ¬ (k < rs.length ∧ (at_ rs k).id = id) := of_decide_eq_false h
    refine fi_no fun j hj e => ?_
    rcases Nat.lt_trichotomy j k with hl | rfl | hg
    · have := hp.2.1 j hl; omega
    · exact hn ⟨hj, e⟩
    · have h1 := hp.2.2 k (Nat.le_refl _) (by omega)
      have h2 := hasc.lt hg hj
      omega

set_option maxRecDepth 20000 in
set_option maxHeartbeats 4000000 in
theorem swap_no (rs : List Ru) (hf : ∀ i, i < rs.length → Is (at_ rs i)) (hl : rs.length ≤ 1048576) (a b : Int)
    (h : goodB rs = false ∨ fiZ rs a < 0 ∨ fiZ rs b < 0 ∨ fiZ rs a = fiZ rs b) (ad : Option Addr) (cap : Nat) (w : World) (hr : Row w ad rs) :
    Calls Tryd.prog 21 #[.slice ad rs.length cap, .int .i64 a, .int .i64 b] w (LPost w [] false) := by
  have H := Lib.hid hr
  have hml : rs.length ≤ maxLen := by unfold maxLen; omega
  obtain ⟨g, hg⟩ : ∃ g, goodB rs = g := ⟨_, rfl⟩
  obtain ⟨x, hx⟩ : ∃ z, fiZ rs a = z := ⟨_, rfl⟩
  obtain ⟨y, hy⟩ : ∃ z, fiZ rs b = z := ⟨_, rfl⟩
  have c0 := Lib.hid (fun w hr => hg ▸ good_any ad cap rs w hr hf hml)
  have c1 := Lib.hid (fun w hr => hx ▸ find_any rs hl a ad cap w hr)
  have c2 := Lib.hid (fun w hr => hy ▸ find_any rs hl b ad cap w hr)
  rw [hg, hx, hy] at h
  clear hr hf hg hx hy
  have hsplit : g = false ∨ (g = true ∧ x < 0) ∨ (g = true ∧ ¬ x < 0 ∧ y < 0) ∨ (g = true ∧ ¬ x < 0 ∧ ¬ y < 0 ∧ x = y) := by
    cases g with
    | false => exact .inl rfl
    | true =>
      by_cases h1 : x < 0
      · exact .inr (.inl ⟨rfl, h1⟩)
      · by_cases h2 : y < 0
        · exact .inr (.inr (.inl ⟨rfl, h1, h2⟩))
        · exact .inr (.inr (.inr ⟨rfl, h1, h2, by rcases h with h | h | h | h; cases h; exact absurd h h1; exact absurd h h2; exact h⟩))
  clear h
  rcases hsplit with rfl | ⟨rfl, h1⟩ | ⟨rfl, h1, h2⟩ | ⟨rfl, h1, h2, h3⟩
  case' inr.inl => have d1 : decide (x < 0) = true := decide_eq_true h1; clear h1
  case' inr.inr.inl => have d1 : decide (x < 0) = false := decide_eq_false h1; have d2 : decide (y < 0) = true := decide_eq_true h2; clear h1 h2
  case' inr.inr.inr => have d1 : decide (x < 0) = false := decide_eq_false h1; have d2 : decide (y < 0) = false := decide_eq_false h2; have d3 : (x == y) = true := (by simpa using h3); clear h1 h2 h3
  all_goals
    go_enter Tryd.func21, Tryd.ntmps21
    go_wp2_with fail
    refine (c1.out _ H.out).mono ?_
    rintro e w1 ⟨rfl, rfl⟩
    go_wp2_with fail
    refine (c2.out _ H.out).mono ?_
    rintro e w1 ⟨rfl, rfl⟩
    go_wp2_with fail
    refine (c0.out _ H.out).mono ?_
    rintro e w2 ⟨rfl, hb⟩
    have HB1 := Lib.hid hb
    clear hb
    go_wp2
    go_ret2
    exact ⟨_, rfl, own_none w2 _ HB1.out.size, HB1.out.alloc HB1.out.size _⟩

/-- What stands while two are exchanged: the list of the call's own; two boxes. -/
structure Sw (w : World) (g n cp : Nat) (rs : List Ru) (X Y : Nat) (x y : Ru) (wx : World) : Prop where
  b : Below w.heap.size w wx
  own : Own wx w.heap.size (.slice (some ⟨g, 0, none⟩) n cp) rs
  xb : Blk wx X 25 #[.int .i64 x.id, .string x.nm, .string x.cl, .int .i64 x.bo, .bool x.wo, .int .i64 x.ca]
  yb : Blk wx Y 25 #[.int .i64 y.id, .string y.nm, .string y.cl, .int .i64 y.bo, .bool y.wo, .int .i64 y.ca]
  xl : w.heap.size ≤ X
  yl : w.heap.size ≤ Y
  ne : X ≠ Y
  nx : g ≠ X
  ny : g ≠ Y
theorem own_far {w : World} {base g n cap h : Nat} {rs : List Ru} {p : Nat} {v : Value} (H : Own w base (.slice (some ⟨g, 0, none⟩) n cap) rs) (hn : g ≠ h) : Own (w.setCell ⟨h, p, none⟩ v) base (.slice (some ⟨g, 0, none⟩) n cap) rs := by
  unfold Own at H ⊢
  refine ⟨H.1, ?_⟩
  rcases H.2 with h2 | ⟨g', cap', cur, hv, hg, hh, r⟩
  · exact .inl h2
  · obtain ⟨h1, -, -⟩ := Value.slice.inj hv
    have : g = g' := by simpa using h1
    subst this
    exact .inr ⟨g, cap', cur, hv, hg, (Below.heap_setCell w ⟨h, p, none⟩ v g hn).trans hh, r⟩
theorem Sw.setx {w : World} {g n cp : Nat} {rs : List Ru} {X Y : Nat} {x y : Ru} {wx : World} (h : Sw w g n cp rs X Y x y wx) (z : Int) : Sw w g n cp rs X Y { x with ca := z } y (wx.setCell ⟨X, 5, none⟩ (.int .i64 z)) :=
  ⟨h.b.setCell h.xl _, own_far h.own h.nx, by have := h.xb.set_ 5 (.int .i64 z); simpa using this, h.yb.far (fun e => h.ne e.symm) _, h.xl, h.yl, h.ne, h.nx, h.ny⟩
theorem Sw.sety {w : World} {g n cp : Nat} {rs : List Ru} {X Y : Nat} {x y : Ru} {wx : World} (h : Sw w g n cp rs X Y x y wx) (z : Int) : Sw w g n cp rs X Y x { y with ca := z } (wx.setCell ⟨Y, 5, none⟩ (.int .i64 z)) :=
  ⟨h.b.setCell h.yl _, own_far h.own h.ny, h.xb.far h.ne _, by have := h.yb.set_ 5 (.int .i64 z); simpa using this, h.xl, h.yl, h.ne, h.nx, h.ny⟩
theorem Sw.put {w : World} {g n cp : Nat} {rs : List Ru} {X Y : Nat} {x y : Ru} {wx : World} (h : Sw w g n cp rs X Y x y wx) (hg : w.heap.size ≤ g) (hn : rs.length = n) {k : Nat} (hk : k < n) (z : Ru) :
    Sw w g n cp (rs.set k z) X Y x y ((((((wx.setCell ⟨g, k * 6, none⟩ (.int .i64 z.id)).setCell ⟨g, k * 6 + 1, none⟩ (.string z.nm)).setCell ⟨g, k * 6 + 2, none⟩ (.string z.cl)).setCell ⟨g, k * 6 + 3, none⟩ (.int .i64 z.bo)).setCell ⟨g, k * 6 + 4, none⟩ (.bool z.wo)).setCell ⟨g, k * 6 + 5, none⟩ (.int .i64 z.ca)) := by
  refine ⟨?_, h.own.put hn (by omega) z, ?_, ?_, h.xl, h.yl, h.ne, h.nx, h.ny⟩
  · iterate 6 (refine Below.setCell ?_ hg _)
    exact h.b
  · iterate 6 (refine Blk.far ?_ (fun e => h.nx e.symm) _)
    exact h.xb
  · iterate 6 (refine Blk.far ?_ (fun e => h.ny e.symm) _)
    exact h.yb

set_option maxRecDepth 20000 in
set_option maxHeartbeats 8000000 in
theorem swap_yes (rs : List Ru) (hf : ∀ i, i < rs.length → Is (at_ rs i)) (hl : rs.length ≤ 1048576) (a b : Int) (hg : goodB rs = true) (i k : Nat) (hil : i < rs.length) (hkl : k < rs.length) (hik : i ≠ k) (hi : fiZ rs a = i) (hk : fiZ rs b = k)
    (ad : Option Addr) (cap : Nat) (w : World) (hr : Row w ad rs) :
    Calls Tryd.prog 21 #[.slice ad rs.length cap, .int .i64 a, .int .i64 b] w (LPost w (swL rs i k) true) := by
  obtain ⟨t0, hi0, hz0, hz1, hz2⟩ := info_parts info
  have H := Lib.hid hr
  have hml : rs.length ≤ maxLen := by unfold maxLen; omega
  have c0 := Lib.hid (fun w hr => hg ▸ good_any ad cap rs w hr hf hml)
  have c1 := Lib.hid (fun w hr => hi ▸ find_any rs hl a ad cap w hr)
  have c2 := Lib.hid (fun w hr => hk ▸ find_any rs hl b ad cap w hr)
  obtain ⟨b0, off, rfl⟩ : ∃ b off, ad = some ⟨b, off, none⟩ := by
    rcases hr with h0 | ⟨b', off, e, _⟩
    · omega
    · exact ⟨_, _, e⟩
  obtain ⟨x, hx⟩ : ∃ x, at_ rs i = x := ⟨_, rfl⟩
  obtain ⟨y, hy⟩ : ∃ x, at_ rs k = x := ⟨_, rfl⟩
  obtain ⟨n, hn⟩ : ∃ n, rs.length = n := ⟨_, rfl⟩
  have HN := Lib.hid hn
  have HX := Lib.hid hx
  have HY := Lib.hid hy
  have hcl : (cells rs).length = n * 6 := by rw [cells_len, hn]
  rw [hn] at hl hml hil hkl c0 c1 c2 ⊢
  have e1 : decide ((i : Int) < 0) = false := decide_eq_false (by omega)
  have e2 : decide ((k : Int) < 0) = false := decide_eq_false (by omega)
  have e3 : ((i : Int) == (k : Int)) = false := by simp; omega
  have i0 : (0 : Int) ≤ (i : Int) := by omega
  have k0 : (0 : Int) ≤ (k : Int) := by omega
  have i1 : (i : Int) < (n : Int) := by omega
  have k1 : (k : Int) < (n : Int) := by omega
  have hikz := Lib.hid hik
  clear hr hf hg hi hk hx hy hn hik
  go_enter Tryd.func21, Tryd.ntmps21
  go_wp2_with fail
  refine (c1.out _ H.out).mono ?_
  rintro e w1 ⟨rfl, hq⟩
  obtain rfl := hq.symm
  go_wp2_with fail
  refine (c2.out _ H.out).mono ?_
  rintro e w2 ⟨rfl, hq⟩
  obtain rfl := hq.symm
  go_wp2_with fail
  refine (c0.out _ H.out).mono ?_
  rintro e w3 ⟨rfl, hb⟩
  have HB3 := Lib.hid hb
  have HR3 := Lib.hid (H.out.later hb)
  clear hb
  have hB0 := (Below.refl w3.heap.size w3).alloc (Nat.le_refl _) (.cells #[] 25)
  have HN3 := Lib.hid (Row.news (HR3.out.later hB0))
  have hown := Own.empty w3
  unfold Own at hown
  have HB4 := Lib.hid (HB3.out.alloc HB3.out.size (.cells #[] 25))
  have HR4 := Lib.hid (HR3.out.later hB0)
  have hs4 := Lib.hid hB0.size
  clear hB0
  go_upto_region 5 with (at_builtin; (refine wpList_append_own _ rfl (.tmp 36) (.tmp 37) 33 rfl w3.heap.size 25 t0 (.agg #[.int .i64 no.id, .string no.nm, .string no.cl, .int .i64 no.bo, .bool no.wo, .int .i64 no.ca]) 6 64 Tryd.underlying33 hi0 hz0 hz1 hz2 rfl (by decide) _ 0 _ rfl hown ⟨b0, off, none⟩ n cap (cells rs) rfl hcl HN3.out (cells_one rs) (by unfold maxLen; omega) (by omega) hs4.out ?_; intro v' w5 hown5 hgr5 _; have HO := Lib.hid (show Own w5 w3.heap.size v' ([] ++ rs) from Own.cat rfl HN.out hown5); have HG5 := Lib.hid (show World.grownBy _ w5 (some w3.heap.size) from hgr5); clear hown5 hgr5))
  obtain ⟨g, cp, rfl, hgb⟩ := own_some (show Own w5 w3.heap.size v' rs from HO.out) (by rw [HN.out]; omega)
  rw [HN.out] at HO ⊢
  have hgw : w.heap.size ≤ g := Nat.le_trans HB3.out.size hgb
  have HB5 := Lib.hid (HB4.out.grown HG5.out HB4.out.size (fun q e => by cases e; exact HB3.out.size))
  have HR5 := Lib.hid (HR4.out.beside HG5.out (fun z e => by
    cases e
    have := HR3.out
    rcases this with h0 | ⟨b', o', e', hc⟩
    · rw [HN.out] at h0; omega
    · cases e'
      have := World.block_lt_of_cell? w3 _ (hc 0 (by rw [HN.out]; omega) 0 (by omega))
      exact fun e => by have e2 : w3.heap.size = b0 := by simpa using e
                        simp only at this
                        omega))
  have HO5 := Lib.hid (show Own w5 w.heap.size (.slice (some ⟨g, 0, none⟩) n cp) rs from Own.rebase HO.out HB3.out.size)
  have hg5 : g < w5.heap.size := ((HO5.out).at_lt _ rfl).2
  have HL := Lib.hid (show w5.ownsRow w.heap.size 25 6 (.slice (some ⟨g, 0, none⟩) n cp) n (cells rs) from by have h := HO5.out; unfold Own at h; rw [HN.out] at h; exact h)
  obtain ⟨b1, off1, eb1, p0, p1, p2, p3, p4, p5⟩ := (Own.row (show Own w5 w.heap.size (.slice (some ⟨g, 0, none⟩) rs.length cp) rs from by rw [HN.out]; exact HO5.out)).cells (i := i) (by rw [HN.out]; exact hil)
  cases eb1
  obtain ⟨b2, off2, eb2, q0, q1, q2, q3, q4, q5⟩ := (Own.row (show Own w5 w.heap.size (.slice (some ⟨g, 0, none⟩) rs.length cp) rs from by rw [HN.out]; exact HO5.out)).cells (i := k) (by rw [HN.out]; exact hkl)
  cases eb2
  rw [HX.out] at p0 p1 p2 p3 p4 p5
  rw [HY.out] at q0 q1 q2 q3 q4 q5
  simp only [Nat.zero_add] at p0 p1 p2 p3 p4 p5 q0 q1 q2 q3 q4 q5
  clear HO HG5 hgb HB4 HR4 HN3 hown hs4
  go_cut [11, 12] from 39 to 47 (fun u1 u2 wx => ∃ X Y, u1 = .pointer (some ⟨X, 0, none⟩) ∧ u2 = .pointer (some ⟨Y, 0, none⟩) ∧ Sw w g n cp rs X Y x y wx)
  case first =>
    have hsz := HB5.out.size
    go_region
    · go_wp2
      go_meet
      refine ⟨_, _, rfl, rfl, ⟨((HB5.out.alloc hsz _).alloc (by simp; omega) _).drew, ((HO5.out.below ((Below.refl _ _).alloc (Nat.le_refl _) _)).below ((Below.refl _ _).alloc (Nat.le_refl _) _)).drew, ((Blk.new w5 _ _).alloc _).drew, ?_, hsz, by omega, by omega, by omega, by omega⟩⟩
      have := Blk.new (w5.alloc (.cells #[.int .i64 x.id, .string x.nm, .string x.cl, .int .i64 x.bo, .bool x.wo, .int .i64 x.ca] 25)) 25 #[.int .i64 y.id, .string y.nm, .string y.cl, .int .i64 y.bo, .bool y.wo, .int .i64 y.ca]
      rw [World.size_alloc] at this
      exact this.drew
    · go_wp2
      go_meet
      refine ⟨_, _, rfl, rfl, ⟨((HB5.out.alloc hsz _).alloc (by simp; omega) _).drew, ((HO5.out.below ((Below.refl _ _).alloc (Nat.le_refl _) _)).below ((Below.refl _ _).alloc (Nat.le_refl _) _)).drew, ?_, ((Blk.new w5 _ _).alloc _).drew, by omega, hsz, by omega, by omega, by omega⟩⟩
      have := Blk.new (w5.alloc (.cells #[.int .i64 y.id, .string y.nm, .string y.cl, .int .i64 y.bo, .bool y.wo, .int .i64 y.ca] 25)) 25 #[.int .i64 x.id, .string x.nm, .string x.cl, .int .i64 x.bo, .bool x.wo, .int .i64 x.ca]
      rw [World.size_alloc] at this
      exact this.drew
  case rest =>
  obtain ⟨X, Y, rfl, rfl, hS⟩ := hcut
  have HS := Lib.hid hS
  clear hS p0 p1 p2 p3 p4 p5 q0 q1 q2 q3 q4 q5 HB5 HR5 HO5 HL hg5 HB3 HR3
  obtain ⟨b1, o1, eb1, -, -, -, -, -, r5⟩ := (H.out.later HS.out.b).cells (i := k) (by rw [HN.out]; exact hkl)
  cases eb1
  rw [HY.out] at r5
  obtain ⟨⟨-, -, -, -, -, p5⟩, -, -, -, -, -, f5⟩ := blk_cells HS.out.xb
  have HS2 := Lib.hid (HS.out.setx y.ca)
  go_upto_region 7 with (fail)
  clear r5 p5 f5 HS
  obtain ⟨b1, o1, eb1, -, -, -, -, -, r5⟩ := (H.out.later HS2.out.b).cells (i := i) (by rw [HN.out]; exact hil)
  cases eb1
  rw [HX.out] at r5
  obtain ⟨⟨-, -, -, -, -, p5⟩, -, -, -, -, -, f5⟩ := blk_cells HS2.out.yb
  have HS3 := Lib.hid (HS2.out.sety x.ca)
  go_upto_region 8 with (fail)
  clear r5 p5 f5 HS2
  obtain ⟨x', hx'⟩ : ∃ z, ({ x with ca := y.ca } : Ru) = z := ⟨_, rfl⟩
  obtain ⟨y', hy'⟩ : ∃ z, ({ y with ca := x.ca } : Ru) = z := ⟨_, rfl⟩
  have HE := Lib.hid (show (rs.set i x').set k y' = swL rs i k from by unfold swL; rw [HX.out, HY.out, ← hx', ← hy'])
  rw [hx', hy'] at HS3
  clear hx' hy'
  generalize World.setCell _ _ _ = wa at *
  have HS4 := Lib.hid (HS3.out.put hgw HN.out hil x')
  have HL := Lib.hid (show wa.ownsRow w.heap.size 25 6 (.slice (some ⟨g, 0, none⟩) n cp) n (cells rs) from by have h := HS3.out.own; unfold Own at h; rw [HN.out] at h; exact h)
  obtain ⟨⟨p0, p1, p2, p3, p4, p5⟩, -⟩ := blk_cells HS3.out.xb
  obtain ⟨u0, d0, f0⟩ := raw_at HL.out (k := i * 6) (by omega)
  obtain ⟨u1, d1, f1⟩ := raw_at HL.out (k := i * 6 + 1) (by omega)
  obtain ⟨u2, d2, f2⟩ := raw_at HL.out (k := i * 6 + 2) (by omega)
  obtain ⟨u3, d3, f3⟩ := raw_at HL.out (k := i * 6 + 3) (by omega)
  obtain ⟨u4, d4, f4⟩ := raw_at HL.out (k := i * 6 + 4) (by omega)
  obtain ⟨u5, d5, f5⟩ := raw_at HL.out (k := i * 6 + 5) (by omega)
  go_upto_region 9 with (fail)
  clear p0 p1 p2 p3 p4 p5 d0 f0 d1 f1 d2 f2 d3 f3 d4 f4 d5 f5 HL HS3
  obtain ⟨wb, hwb⟩ : ∃ wb, (((((wa.setCell ⟨g, i * 6, none⟩ (.int .i64 x'.id)).setCell ⟨g, i * 6 + 1, none⟩ (.string x'.nm)).setCell ⟨g, i * 6 + 2, none⟩ (.string x'.cl)).setCell ⟨g, i * 6 + 3, none⟩ (.int .i64 x'.bo)).setCell ⟨g, i * 6 + 4, none⟩ (.bool x'.wo)).setCell ⟨g, i * 6 + 5, none⟩ (.int .i64 x'.ca) = wb := ⟨_, rfl⟩
  rw [hwb] at HS4 ⊢
  clear hwb
  have hlen : (rs.set i x').length = n := by rw [List.length_set, HN.out]
  have HS5 := Lib.hid (HS4.out.put hgw hlen hkl y')
  have HL := Lib.hid (show wb.ownsRow w.heap.size 25 6 (.slice (some ⟨g, 0, none⟩) n cp) n (cells (rs.set i x')) from by have h := HS4.out.own; unfold Own at h; rw [hlen] at h; exact h)
  obtain ⟨⟨p0, p1, p2, p3, p4, p5⟩, -⟩ := blk_cells HS4.out.yb
  obtain ⟨u0, d0, f0⟩ := raw_at HL.out (k := k * 6) (by omega)
  obtain ⟨u1, d1, f1⟩ := raw_at HL.out (k := k * 6 + 1) (by omega)
  obtain ⟨u2, d2, f2⟩ := raw_at HL.out (k := k * 6 + 2) (by omega)
  obtain ⟨u3, d3, f3⟩ := raw_at HL.out (k := k * 6 + 3) (by omega)
  obtain ⟨u4, d4, f4⟩ := raw_at HL.out (k := k * 6 + 4) (by omega)
  obtain ⟨u5, d5, f5⟩ := raw_at HL.out (k := k * 6 + 5) (by omega)
  clear hlen
  go_wp2
  go_ret2
  refine ⟨_, rfl, ?_, HS5.out.b⟩
  have h := HS5.out.own
  rw [HE.out] at h
  exact h

end Go.Proofs.YtjngnjokbnklfaaDoor.RuX
