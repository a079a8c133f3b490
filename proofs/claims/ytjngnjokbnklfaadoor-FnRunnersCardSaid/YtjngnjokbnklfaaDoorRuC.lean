/- Valid lists and who uses a card: one answer, a contract for each text. -/
import Derived.Test.YtjngnjokbnklfaaDoorRuG
namespace Go.Proofs.YtjngnjokbnklfaaDoor.RuC
open Go.RowKit Lb Bk InA Wd RuK RuI RuU RuA RuG
set_option linter.unusedSimpArgs false
set_option linter.unusedVariables false

/-- Who uses a card. -/
def wcB (rs : List Ru) (c : Int) : Bool := goodB rs && usB rs c
def wcR (rs : List Ru) (c : Int) : Ru := if goodB rs then usR rs c else no

set_option maxRecDepth 20000 in
set_option maxHeartbeats 2000000 in
theorem with_impl (a : Option Addr) (cap : Nat) (rs : List Ru) (c : Int) (w : World) (hc : rs.length ≤ cap) (hr : Row w a rs) (hf : ∀ i, i < rs.length → Is (at_ rs i)) (hl : rs.length ≤ maxLen) :
    Calls Tryd.prog 17 #[.slice a rs.length cap, .int .i64 c] w fun e w' => e = .returned (.tuple #[.agg #[.int .i64 ((wcR rs c)).id, .string ((wcR rs c)).nm, .string ((wcR rs c)).cl, .int .i64 ((wcR rs c)).bo, .bool ((wcR rs c)).wo, .int .i64 ((wcR rs c)).ca], .bool (wcB rs c)]) ∧ Below w.heap.size w w' := by
  have H := Lib.hid hr
  have HB := Lib.hid ((Below.refl w.heap.size w).alloc (Nat.le_refl _) (.cells #[.int .i64 no.id, .string no.nm, .string no.cl, .int .i64 no.bo, .bool no.wo, .int .i64 no.ca] 25))
  have HK := Lib.hid (Blk.new w 25 #[.int .i64 no.id, .string no.nm, .string no.cl, .int .i64 no.bo, .bool no.wo, .int .i64 no.ca])
  obtain ⟨x, hx⟩ : ∃ x, wcR rs c = x := ⟨_, rfl⟩
  obtain ⟨ok, hok⟩ : ∃ ok, wcB rs c = ok := ⟨_, rfl⟩
  obtain ⟨g, hg⟩ : ∃ g, goodB rs = g := ⟨_, rfl⟩
  have c1 := Lib.hid (fun w hr => hg ▸ RuA.impl_any a cap rs w hc hr hf hl)
  have c2 := Lib.hid (fun w hr => us_any a cap rs c w hr hl)
  have HX := Lib.hid hx
  have HO := Lib.hid hok
  have HG := Lib.hid hg
  rw [hx, hok]
  clear hr hf hg hx hok
  go_enter Tryd.func17, Tryd.ntmps17
  go_wp2_with fail
  refine (c1.out _ (H.out.later ((Below.refl w.heap.size w).alloc (Nat.le_refl _) _))).mono ?_
  rintro e w1 ⟨rfl, hb⟩
  have HB1 := Lib.hid (HB.out.trans (hb.mono (by simp)))
  have HK1 := Lib.hid (HK.out.later hb)
  clear hb HB HK
  cases g with
  | false =>
    have hxy : no = x := by rw [← HX.out]; unfold wcR; rw [HG.out]; rfl
    have hoo : ok = false := by rw [← HO.out]; unfold wcB; rw [HG.out]; rfl
    subst hxy hoo
    obtain ⟨⟨p0, p1, p2, p3, p4, p5⟩, f0, f1, f2, f3, f4, f5⟩ := blk_cells HK1.out
    have hz := HK1.out.lt
    have HP := Lib.hid (blk_all HK1.out no)
    obtain ⟨⟨r0, r1, r2, r3, r4, r5⟩, -⟩ := blk_cells HP.out.1
    simp only [no] at r0 r1 r2 r3 r4 r5
    go_wp2
    refine bodyPost_ret (v := .tuple #[.agg #[.int .i64 no.id, .string no.nm, .string no.cl, .int .i64 no.bo, .bool no.wo, .int .i64 no.ca], .bool false]) (by simp [results, Tryd.results17, go_sem, no, r0, r1, r2, r3, r4, r5]) rfl ⟨rfl, HB1.out.trans (HP.out.2 _ (Nat.le_refl _))⟩
  | true =>
    have hxy : usR rs c = x := by rw [← HX.out]; unfold wcR; rw [HG.out]; rfl
    have hoo : usB rs c = ok := by rw [← HO.out]; unfold wcB; rw [HG.out]; rfl
    rw [hxy, hoo] at c2
    clear hxy hoo
    go_wp2_with fail
    refine (c2.out _ (H.out.later HB1.out)).mono ?_
    rintro e w2 ⟨rfl, hb⟩
    have HB2 := Lib.hid (HB1.out.trans (hb.mono HB1.out.size))
    have HK2 := Lib.hid (HK1.out.later hb)
    clear hb HB1 HK1
    obtain ⟨⟨p0, p1, p2, p3, p4, p5⟩, f0, f1, f2, f3, f4, f5⟩ := blk_cells HK2.out
    have hz := HK2.out.lt
    have HP := Lib.hid (blk_all HK2.out x)
    obtain ⟨⟨r0, r1, r2, r3, r4, r5⟩, -⟩ := blk_cells HP.out.1
    go_wp2
    refine bodyPost_ret (v := .tuple #[.agg #[.int .i64 x.id, .string x.nm, .string x.cl, .int .i64 x.bo, .bool x.wo, .int .i64 x.ca], .bool ok]) (by simp [results, Tryd.results17, go_sem, r0, r1, r2, r3, r4, r5]) rfl ⟨rfl, HB2.out.trans (HP.out.2 _ (Nat.le_refl _))⟩

/-- The model's search stops at the same one: cards of a valid list are not negative. -/
theorem wc_at {rs : List Ru} {c : Int} {k : Nat} (hg : goodB rs = true) (hc : 1 ≤ c) (hk : k < rs.length) (h : ∀ j, j < k → (at_ rs j).ca ≠ c) (h1 : (at_ rs k).ca = c) : wcB rs c = true ∧ wcR rs c = at_ rs k := by
  have := us_at (rs := rs) (c := c) hk (fun j hj => by unfold usP; simp [h j hj]) (by unfold usP; simp [h1]; omega)
  unfold wcB wcR
  rw [hg, this.1, this.2]
  exact ⟨rfl, rfl⟩
theorem wc_no {rs : List Ru} {c : Int} (h : ∀ j, j < rs.length → (at_ rs j).ca ≠ c) : wcB rs c = false ∧ wcR rs c = no := by
  have := us_no (rs := rs) (c := c) (fun j hj => by unfold usP; simp [h j hj])
  unfold wcB wcR
  rw [this.1, this.2]
  exact ⟨by simp, by simp⟩
theorem wc_bad {rs : List Ru} {c : Int} (h : goodB rs = false) : wcB rs c = false ∧ wcR rs c = no := by
  unfold wcB wcR
  rw [h]
  exact ⟨rfl, rfl⟩
theorem good_ca {rs : List Ru} (h : goodB rs = true) {j : Nat} (hj : j < rs.length) : 0 ≤ (at_ rs j).ca ∧ (at_ rs j).ca ≤ 9999 := by
  have := ((of_decide_eq_true h : GoodP rs).2 j hj).1
  unfold okR at this
  simp at this
  omega
/-- A card out of range is nobody's. -/
theorem wc_out {rs : List Ru} {c : Int} (hg : goodB rs = true) (hc : ¬ (1 ≤ c ∧ c ≤ 9999)) : wcB rs c = false ∧ wcR rs c = no := by
  have : ∀ j, j < rs.length → usP c (at_ rs j) = false := fun j hj => by
    have hb := good_ca hg hj
    unfold usP
    by_cases h0 : c = 0
    · simp [h0]
    · have : (at_ rs j).ca ≠ c := by omega
      simp [this]
  have := us_no this
  unfold wcB wcR
  rw [hg, this.1, this.2]
  exact ⟨rfl, rfl⟩

set_option maxRecDepth 20000 in
set_option maxHeartbeats 2000000 in
theorem with_spec (a : Option Addr) (cap : Nat) (rs : List Ru) (c : Int) (w : World) (hr : Row w a rs) (hf : ∀ i, i < rs.length → Is (at_ rs i)) (hl : rs.length ≤ maxLen) :
    Calls Tryd.prog 23 #[.slice a rs.length cap, .int .i64 c] w fun e w' => e = .returned (.tuple #[.agg #[.int .i64 ((wcR rs c)).id, .string ((wcR rs c)).nm, .string ((wcR rs c)).cl, .int .i64 ((wcR rs c)).bo, .bool ((wcR rs c)).wo, .int .i64 ((wcR rs c)).ca], .bool (wcB rs c)]) ∧ Below w.heap.size w w' := by
  have H := Lib.hid hr
  have HB := Lib.hid ((Below.refl w.heap.size w).alloc (Nat.le_refl _) (.cells #[.int .i64 no.id, .string no.nm, .string no.cl, .int .i64 no.bo, .bool no.wo, .int .i64 no.ca] 25))
  have HK := Lib.hid (Blk.new w 25 #[.int .i64 no.id, .string no.nm, .string no.cl, .int .i64 no.bo, .bool no.wo, .int .i64 no.ca])
  obtain ⟨x, hx⟩ : ∃ x, wcR rs c = x := ⟨_, rfl⟩
  obtain ⟨ok, hok⟩ : ∃ ok, wcB rs c = ok := ⟨_, rfl⟩
  obtain ⟨g, hg⟩ : ∃ g, goodB rs = g := ⟨_, rfl⟩
  have c1 := Lib.hid (fun w hr => hg ▸ good_any a cap rs w hr hf hl)
  have HX := Lib.hid hx
  have HO := Lib.hid hok
  have HG := Lib.hid hg
  rw [hx, hok]
  unfold maxLen at hl
  obtain ⟨n, hn⟩ : ∃ n, rs.length = n := ⟨_, rfl⟩
  have HN := Lib.hid hn
  rw [hn] at hl c1 ⊢
  clear hr hf hg hx hok hn
  go_enter Tryd.func23, Tryd.ntmps23
  go_wp2_with fail
  refine (c1.out _ (H.out.later ((Below.refl w.heap.size w).alloc (Nat.le_refl _) _))).mono ?_
  rintro e w1 ⟨rfl, hb⟩
  have HB1 := Lib.hid (HB.out.trans (hb.mono (by simp)))
  have HK1 := Lib.hid (HK.out.later hb)
  clear hb HB HK
  have FIN : Aside (∀ wr, Blk wr w.heap.size 25 #[.int .i64 no.id, .string no.nm, .string no.cl, .int .i64 no.bo, .bool no.wo, .int .i64 no.ca] → Below w.heap.size w wr → True) := fun _ _ _ => trivial
  cases g with
  | false =>
    have hxy : no = x := by rw [← HX.out]; exact (wc_bad HG.out).2.symm
    have hoo : ok = false := by rw [← HO.out]; exact (wc_bad HG.out).1
    subst hxy hoo
    obtain ⟨⟨p0, p1, p2, p3, p4, p5⟩, f0, f1, f2, f3, f4, f5⟩ := blk_cells HK1.out
    have hz := HK1.out.lt
    have HP := Lib.hid (blk_all HK1.out no)
    obtain ⟨⟨r0, r1, r2, r3, r4, r5⟩, -⟩ := blk_cells HP.out.1
    simp only [no] at r0 r1 r2 r3 r4 r5
    go_wp2
    refine bodyPost_ret (v := .tuple #[.agg #[.int .i64 no.id, .string no.nm, .string no.cl, .int .i64 no.bo, .bool no.wo, .int .i64 no.ca], .bool false]) (by simp [results, Tryd.results23, go_sem, no, r0, r1, r2, r3, r4, r5]) rfl ⟨rfl, HB1.out.trans (HP.out.2 _ (Nat.le_refl _))⟩
  | true =>
    obtain ⟨d, hd⟩ : ∃ d, decide (1 ≤ c ∧ c ≤ 9999) = d := ⟨_, rfl⟩
    have c2 := Lib.hid (fun w => hd ▸ in_any c 1 9999 w)
    go_wp2_with fail
    refine (c2.out _).mono ?_
    rintro e w2 ⟨rfl, rfl⟩
    cases d with
    | false =>
      have hcc := of_decide_eq_false hd
      have hxy : no = x := by rw [← HX.out]; exact (wc_out HG.out hcc).2.symm
      have hoo : ok = false := by rw [← HO.out]; exact (wc_out HG.out hcc).1
      subst hxy hoo
      clear hd hcc
      obtain ⟨⟨p0, p1, p2, p3, p4, p5⟩, f0, f1, f2, f3, f4, f5⟩ := blk_cells HK1.out
      have hz := HK1.out.lt
      have HP := Lib.hid (blk_all HK1.out no)
      obtain ⟨⟨r0, r1, r2, r3, r4, r5⟩, -⟩ := blk_cells HP.out.1
      simp only [no] at r0 r1 r2 r3 r4 r5
      go_wp2
      refine bodyPost_ret (v := .tuple #[.agg #[.int .i64 no.id, .string no.nm, .string no.cl, .int .i64 no.bo, .bool no.wo, .int .i64 no.ca], .bool false]) (by simp [results, Tryd.results23, go_sem, no, r0, r1, r2, r3, r4, r5]) rfl ⟨rfl, HB1.out.trans (HP.out.2 _ (Nat.le_refl _))⟩
    | true =>
      have hcc := Lib.hid (of_decide_eq_true hd).1
      clear hd
      go_wp2_with fail
      go_loopw [6] (fun i wr => ∃ k : Nat, k ≤ n ∧ i = .int .i64 k ∧ (∀ j, j < k → (at_ rs j).ca ≠ c) ∧ Below w.heap.size w wr ∧ Blk wr w.heap.size 25 #[.int .i64 no.id, .string no.nm, .string no.cl, .int .i64 no.bo, .bool no.wo, .int .i64 no.ca]) (fun i _ => n - (intOf i).toNat)
      case atStart => exact ⟨0, Nat.zero_le _, rfl, (fun j hj => absurd hj (Nat.not_lt_zero _)), HB1.out, HK1.out⟩
      case round =>
        clear HB1 HK1
        obtain ⟨k, hk, rfl, hall, hB, hK⟩ := hrel
        have HA := Lib.hid hall
        have HB1 := Lib.hid hB
        have HK1 := Lib.hid hK
        clear hall hB hK
        obtain ⟨⟨p0, p1, p2, p3, p4, p5⟩, f0, f1, f2, f3, f4, f5⟩ := blk_cells HK1.out
        have hz := HK1.out.lt
        by_cases hlt : k < n
        · obtain ⟨b, off, rfl, c0, c1, c2, c3, c4, c5⟩ := (H.out.later HB1.out).cells (i := k) (by rw [HN.out]; exact hlt)
          obtain ⟨y, hy⟩ : ∃ y, at_ rs k = y := ⟨_, rfl⟩
          rw [hy] at c0 c1 c2 c3 c4 c5
          have HY := Lib.hid hy
          clear hy
          by_cases h1 : y.ca = c
          · have hp := wc_at HG.out hcc.out (by rw [HN.out]; exact hlt) HA.out (show (at_ rs k).ca = c from by rw [HY.out]; exact h1)
            have hxy : y = x := by rw [← HX.out, hp.2, HY.out]
            have hoo : ok = true := by rw [← HO.out, hp.1]
            subst hxy hoo
            have h1' : (y.ca == c) = true := by simpa using h1
            have HP := Lib.hid (blk_all HK1.out y)
            obtain ⟨⟨r0, r1, r2, r3, r4, r5⟩, -⟩ := blk_cells HP.out.1
            clear h1 hp
            go_wp2
            refine bodyPost_ret (v := .tuple #[.agg #[.int .i64 y.id, .string y.nm, .string y.cl, .int .i64 y.bo, .bool y.wo, .int .i64 y.ca], .bool true]) (by simp [results, Tryd.results23, go_sem, r0, r1, r2, r3, r4, r5]) rfl ⟨rfl, HB1.out.trans (HP.out.2 _ (Nat.le_refl _))⟩
          · have hp := Lib.hid (show (at_ rs k).ca ≠ c from by rw [HY.out]; exact h1)
            have h1' : (y.ca == c) = false := by simpa using h1
            clear h1
            go_wp2
            go_roundw
            case rel => exact ⟨k + 1, by omega, by go_num, all_succ (p := fun j => (at_ rs j).ca ≠ c) HA.out hp.out, HB1.out, HK1.out⟩
            case measure => simp [intOf]; omega
        · obtain rfl : k = n := by omega
          have hp := wc_no (rs := rs) (c := c) (by rw [HN.out]; exact HA.out)
          have hxy : no = x := by rw [← HX.out, hp.2]
          have hoo : ok = false := by rw [← HO.out, hp.1]
          subst hxy hoo
          have HP := Lib.hid (blk_all HK1.out no)
          obtain ⟨⟨r0, r1, r2, r3, r4, r5⟩, -⟩ := blk_cells HP.out.1
          simp only [no] at r0 r1 r2 r3 r4 r5
          clear hp
          go_wp2
          refine bodyPost_ret (v := .tuple #[.agg #[.int .i64 no.id, .string no.nm, .string no.cl, .int .i64 no.bo, .bool no.wo, .int .i64 no.ca], .bool false]) (by simp [results, Tryd.results23, go_sem, no, r0, r1, r2, r3, r4, r5]) rfl ⟨rfl, HB1.out.trans (HP.out.2 _ (Nat.le_refl _))⟩

theorem with_ (rs : List Ru) (hf : ∀ i, i < rs.length → Is (at_ rs i)) (hl : rs.length ≤ 1048576) (c : Int) (hw : (Lit.int IntKind.i64 c).wf = true) : ∃ (x : Ru) (ok : Bool),
    (∀ a cap w, rs.length ≤ cap → Row w a rs → Calls Tryd.prog 23 #[.slice a rs.length cap, .int .i64 c] w fun e w' => e = .returned (.tuple #[.agg #[.int .i64 x.id, .string x.nm, .string x.cl, .int .i64 x.bo, .bool x.wo, .int .i64 x.ca], .bool ok]) ∧ Below w.heap.size w w') ∧
    (∀ a cap w, rs.length ≤ cap → Row w a rs → Calls Tryd.prog 17 #[.slice a rs.length cap, .int .i64 c] w fun e w' => e = .returned (.tuple #[.agg #[.int .i64 x.id, .string x.nm, .string x.cl, .int .i64 x.bo, .bool x.wo, .int .i64 x.ca], .bool ok]) ∧ Below w.heap.size w w') :=
  ⟨wcR rs c, wcB rs c, fun a cap w _ hr => with_spec a cap rs c w hr hf (by unfold maxLen; omega), fun a cap w hc hr => with_impl a cap rs c w hc hr hf (by unfold maxLen; omega)⟩

end Go.Proofs.YtjngnjokbnklfaaDoor.RuC
