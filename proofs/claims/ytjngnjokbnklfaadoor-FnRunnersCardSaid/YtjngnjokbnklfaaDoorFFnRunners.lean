/- 'FnRunners': the tied card's frame: the walk is in RnrW.law_any; here the given row is met by it and the card closed. -/
import Derived.Test.YtjngnjokbnklfaaDoorRuY
import Derived.Test.YtjngnjokbnklfaaDoorAdS
import Derived.Test.YtjngnjokbnklfaaDoorRpI
import Derived.Test.YtjngnjokbnklfaaDoorRuLs
import Derived.Test.YtjngnjokbnklfaaDoorCodB
import Derived.Test.YtjngnjokbnklfaaDoorSpoi
import Derived.Test.YtjngnjokbnklfaaDoorRuT
import Derived.Test.YtjngnjokbnklfaaDoorRpM
import Derived.Test.YtjngnjokbnklfaaDoorCards
import Derived.Test.YtjngnjokbnklfaaDoorTie
import Derived.WalkKit
import Derived.ProofKit
import Derived.OpenShut
import Derived.ShutString
import Derived.ChangeOld
import Derived.Below
import Derived.Deep.DeepHandedRow
import Derived.Deep.DeepWitnessRowRef
import Derived.Lib.LaidTab
import Derived.Stop.LaidErr
namespace Go.Proofs.YtjngnjokbnklfaaDoor.RnrM
open Go.RowKit Lb Bk InA Wd RuK RuI RuU RuA RuG RuC RuP RuW AdA Fmt NumM RuT RpM PfM
set_option linter.unusedSimpArgs false
set_option linter.unusedVariables false

/-! Texts. -/
theorem mk_ws {r : Ru} (h : okR r = true) : mk (wsR r) = r := by
  obtain ⟨hid, hnm, hcl, hbo, hca⟩ := ok_parts h
  have v1 := val_fmt r.id (by omega) (by omega)
  have v2 := val_fmt r.bo (by omega) (by omega)
  have v3 := val_fmt r.ca (by omega) (by omega)
  have hw : decide (sxOf r = RpM.wB) = r.wo := by
    unfold sxOf RpM.wB
    cases r.wo
    · decide
    · decide
  by_cases h0 : r.ca = 0
  · have e : wsR r = RuQ.ws r (sxOf r) := by unfold wsR; rw [if_pos h0]
    rw [e]
    unfold mk RuQ.ws
    simp only [sAt, List.getD_cons_zero, List.getD_cons_succ, List.length_cons, List.length_nil]
    rw [v1, v2, hw]
    cases r
    simp at h0
    simp [h0]
  · have e : wsR r = RuQ.ws r (sxOf r) ++ [⟨#[99, 97, 114, 100]⟩, fmtB r.ca] := by unfold wsR; rw [if_neg h0]
    rw [e]
    unfold mk RuQ.ws
    simp only [sAt, List.cons_append, List.nil_append, List.getD_cons_zero, List.getD_cons_succ, List.length_cons, List.length_nil]
    rw [v1, v2, v3, hw]
    cases r
    simp
theorem back {r : Ru} (h : okR r = true) : okS (rtx r) = true ∧ ansR (rtx r) = r := by
  have e : rtx r = txR r := by unfold rtx; rw [h]; rfl
  have hc : canR (txR r) = r := by unfold canR; rw [parts_tx h, mk_ws h]
  have hl := wsR_len r
  have ho : okS (txR r) = true := by
    unfold okS
    rw [hc, h, parts_tx h, decide_eq_true rfl, decide_eq_true]
    · rfl
    · refine ⟨tx_size h, ?_⟩
      rw [hl]
      split
      · exact .inl rfl
      · exact .inr rfl
  rw [e]
  exact ⟨ho, by unfold ansR; rw [ho, if_pos rfl, hc]⟩
theorem rtx_size (r : Ru) : (rtx r).size ≤ 60 := by
  unfold rtx
  split
  · rename_i h; exact tx_size h
  · exact Nat.zero_le _

/-! The card of one that was added. -/
theorem good_fit {rs : List Ru} (h : goodB rs = true) {i : Nat} (hi : i < rs.length) : FitP rs i := (of_decide_eq_true h : GoodP rs).2 i hi
theorem uniq {rs : List Ru} (h : goodB rs = true) {i : Nat} (hi : i < rs.length) (h0 : (at_ rs i).ca ≠ 0) : ∀ j, j < i → (at_ rs j).ca ≠ (at_ rs i).ca := (us_none h0 (Nat.le_of_lt hi)).1 (good_fit h hi).2.2
theorem ins_at (rs : List Ru) (x : Ru) : pl rs x.id < (insR rs x).length ∧ at_ (insR rs x) (pl rs x.id) = x := by
  have hp := pl_le rs x.id
  refine ⟨by rw [ins_len]; omega, ?_⟩
  unfold at_ insR
  rw [List.getD_eq_getElem?_getD, List.append_assoc, List.getElem?_append_right (by rw [List.length_take]; omega), List.length_take, Nat.min_eq_left hp, Nat.sub_self]
  rfl
theorem added {rs : List Ru} {x : Ru} (h : adB rs x = true) : goodB (adL rs x) = true ∧ wcB (adL rs x) x.ca = decide (0 < x.ca) ∧ (0 < x.ca → wcR (adL rs x) x.ca = x) := by
  have e : adL rs x = insR rs x := by unfold adL; rw [h]; rfl
  unfold adB at h
  rw [Bool.and_eq_true] at h
  obtain ⟨hp, hx⟩ := ins_at rs x
  rw [e]
  have hg := h.2
  have hok : okR x = true := by have := (good_fit hg hp).1; rwa [hx] at this
  have hc := (ok_parts hok).2.2.2.2
  refine ⟨hg, ?_⟩
  unfold wcB wcR
  rw [hg]
  by_cases h0 : x.ca = 0
  · rw [h0, us_zero]
    exact ⟨rfl, fun h => absurd h (by omega)⟩
  · have := us_at (rs := insR rs x) (c := x.ca) (k := pl rs x.id) hp (fun j hj => by
      have := uniq hg hp (by rw [hx]; exact h0) j hj
      rw [hx] at this
      unfold usP
      simp [this]) (by rw [hx]; unfold usP; simp [h0])
    rw [this.1, this.2, hx, decide_eq_true (by omega)]
    exact ⟨rfl, fun _ => rfl⟩

/-! Cards swapped. -/
def swB (rs : List Ru) (a b : Int) : Bool := goodB rs && (decide (a ≠ b) && (fndB rs a (pl rs a) && fndB rs b (pl rs b)))
def swA (rs : List Ru) (a b : Int) : List Ru := if swB rs a b then swL rs (pl rs a) (pl rs b) else []
theorem swA_len (rs : List Ru) (a b : Int) : (swA rs a b).length ≤ rs.length := by
  unfold swA
  split
  · rw [sw_len]; exact Nat.le_refl _
  · exact Nat.zero_le _
theorem sw_both (rs : List Ru) (hf : ∀ i, i < rs.length → Is (at_ rs i)) (hl : rs.length ≤ 1048576) (a b : Int) :
    (∀ ad cap w, rs.length ≤ cap → Row w ad rs → Calls Tryd.prog 21 #[.slice ad rs.length cap, .int .i64 a, .int .i64 b] w (LPost w (swA rs a b) (swB rs a b))) ∧
    (∀ ad cap w, rs.length ≤ cap → Row w ad rs → Calls Tryd.prog 20 #[.slice ad rs.length cap, .int .i64 a, .int .i64 b] w (LPost w (swA rs a b) (swB rs a b))) := by
  cases hg : goodB rs with
  | false =>
    have e : swB rs a b = false := by unfold swB; rw [hg]; rfl
    have e2 : swA rs a b = [] := by unfold swA; rw [e]; rfl
    rw [e, e2]
    exact ⟨fun ad cap w _ hr => RuX.swap_no rs hf hl a b (.inl hg) ad cap w hr, fun ad cap w hc hr => RuW.swap_no rs hf hl a b (.inl hg) ad cap w hc hr⟩
  | true =>
    by_cases hab : a = b
    · have e : swB rs a b = false := by unfold swB; rw [decide_eq_false (by simpa using hab)]; simp
      have e2 : swA rs a b = [] := by unfold swA; rw [e]; rfl
      rw [e, e2]
      exact ⟨fun ad cap w _ hr => RuX.swap_no rs hf hl a b (.inr (.inr (.inr (by rw [hab])))) ad cap w hr, fun ad cap w hc hr => RuW.swap_no rs hf hl a b (.inr (.inl hab)) ad cap w hc hr⟩
    · have hasc := good_asc hg
      have hi := plc_pl hasc a
      have hk := plc_pl hasc b
      cases h1 : fndB rs a (pl rs a) with
      | false =>
        have e : swB rs a b = false := by unfold swB; rw [h1]; simp
        have e2 : swA rs a b = [] := by unfold swA; rw [e]; rfl
        rw [e, e2]
        exact ⟨fun ad cap w _ hr => RuX.swap_no rs hf hl a b (.inr (.inl (by rw [(RuX.fi_plc hi).2 h1 hasc]; decide))) ad cap w hr, fun ad cap w hc hr => RuW.swap_no rs hf hl a b (.inr (.inr ⟨_, _, hi, hk, hasc, .inl h1⟩)) ad cap w hc hr⟩
      | true =>
        cases h2 : fndB rs b (pl rs b) with
        | false =>
          have e : swB rs a b = false := by unfold swB; rw [h2]; simp
          have e2 : swA rs a b = [] := by unfold swA; rw [e]; rfl
          rw [e, e2]
          exact ⟨fun ad cap w _ hr => RuX.swap_no rs hf hl a b (.inr (.inr (.inl (by rw [(RuX.fi_plc hk).2 h2 hasc]; decide)))) ad cap w hr, fun ad cap w hc hr => RuW.swap_no rs hf hl a b (.inr (.inr ⟨_, _, hi, hk, hasc, .inr h2⟩)) ad cap w hc hr⟩
        | true =>
          obtain ⟨hil, hia⟩ := of_decide_eq_true h1
          obtain ⟨hkl, hkb⟩ := of_decide_eq_true h2
          have hik : pl rs a ≠ pl rs b := fun e => hab (by rw [← hia, ← hkb, e])
          have e : swB rs a b = true := by unfold swB; rw [hg, h1, h2, decide_eq_true hab]; rfl
          have e2 : swA rs a b = swL rs (pl rs a) (pl rs b) := by unfold swA; rw [e]; rfl
          rw [e, e2]
          exact ⟨fun ad cap w _ hr => RuX.swap_yes rs hf hl a b hg _ _ hil hkl hik ((RuX.fi_plc hi).1 h1) ((RuX.fi_plc hk).1 h2) ad cap w hr, fun ad cap w hc hr => RuW.swap_yes rs hf hl a b hg hab _ _ hi hk h1 h2 ad cap w hc hr⟩
/-- Where a card comes from. -/
def sg (i k j : Nat) : Nat := if j = k then i else if j = i then k else j
theorem sw_at {rs : List Ru} {i k : Nat} (hi : i < rs.length) (hk : k < rs.length) (hik : i ≠ k) (j : Nat) (hj : j < rs.length) : at_ (swL rs i k) j = { at_ rs j with ca := (at_ rs (sg i k j)).ca } := by
  unfold swL sg
  by_cases h1 : j = k
  · subst h1
    rw [if_pos rfl]
    unfold at_
    rw [List.getD_eq_getElem?_getD, List.getElem?_set_self (by simpa using hj)]
    rfl
  · rw [if_neg h1]
    have e : at_ ((rs.set i { at_ rs i with ca := (at_ rs k).ca }).set k { at_ rs k with ca := (at_ rs i).ca }) j = at_ (rs.set i { at_ rs i with ca := (at_ rs k).ca }) j := by
      simp only [at_, List.getD_eq_getElem?_getD]
      rw [List.getElem?_set_ne (Ne.symm h1)]
    rw [e]
    by_cases h2 : j = i
    · subst h2
      rw [if_pos rfl]
      unfold at_
      rw [List.getD_eq_getElem?_getD, List.getElem?_set_self hj]
      rfl
    · rw [if_neg h2]
      unfold at_
      rw [List.getD_eq_getElem?_getD, List.getElem?_set_ne (Ne.symm h2)]
      cases h : rs.getD j no
      simp [List.getD_eq_getElem?_getD] at h
      simp [h]
theorem sg_lt {n i k j : Nat} (hi : i < n) (hk : k < n) (hj : j < n) : sg i k j < n := by
  unfold sg
  by_cases h1 : j = k
  · rw [if_pos h1]; exact hi
  · rw [if_neg h1]
    by_cases h2 : j = i
    · rw [if_pos h2]; exact hk
    · rw [if_neg h2]; exact hj
theorem sg_sg {i k : Nat} (hik : i ≠ k) (j : Nat) : sg i k (sg i k j) = j := by
  unfold sg
  by_cases h1 : j = k
  · rw [if_pos h1, if_neg hik, if_pos rfl, h1]
  · rw [if_neg h1]
    by_cases h2 : j = i
    · rw [if_pos h2, if_pos rfl, h2]
    · rw [if_neg h2, if_neg h1, if_neg h2]
theorem sg_inj {i k j l : Nat} (hik : i ≠ k) (h : sg i k j = sg i k l) : j = l := by
  have := congrArg (sg i k) h
  rwa [sg_sg hik, sg_sg hik] at this
theorem ext_at {ps qs : List Ru} (hl : ps.length = qs.length) (h : ∀ j, j < ps.length → at_ ps j = at_ qs j) : ps = qs := by
  refine List.ext_getElem hl fun j h1 h2 => ?_
  have := h j h1
  rwa [at_lt h1, at_lt h2] at this
theorem ne_cards {rs : List Ru} (h : goodB rs = true) {j l : Nat} (hj : j < rs.length) (hl : l < rs.length) (hjl : j ≠ l) (h0 : (at_ rs l).ca ≠ 0) : (at_ rs j).ca ≠ (at_ rs l).ca := by
  rcases Nat.lt_or_gt_of_ne hjl with h1 | h1
  · exact uniq h hl h0 j h1
  · intro e
    exact uniq h hj (by rw [e]; exact h0) l h1 e.symm
theorem sw_twice {rs : List Ru} {a b : Int} (h : swB rs a b = true) : swB (swA rs a b) a b = true ∧ swA (swA rs a b) a b = rs := by
  have e : swA rs a b = swL rs (pl rs a) (pl rs b) := by unfold swA; rw [h]; rfl
  rw [e]
  unfold swB at h
  simp only [Bool.and_eq_true] at h
  obtain ⟨hg, hab, h1, h2⟩ := h
  have hab := of_decide_eq_true hab
  obtain ⟨hil, hia⟩ := of_decide_eq_true h1
  obtain ⟨hkl, hkb⟩ := of_decide_eq_true h2
  have hik : pl rs a ≠ pl rs b := fun e => hab (by rw [← hia, ← hkb, e])
  have hasc := good_asc hg
  have hi := plc_pl hasc a
  have hk := plc_pl hasc b
  generalize pl rs a = i at *
  generalize pl rs b = k at *
  have hlen := sw_len rs i k
  have hat := sw_at hil hkl hik
  have hid : ∀ j, j < rs.length → (at_ (swL rs i k) j).id = (at_ rs j).id := fun j hj => by rw [hat j hj]
  have hca : ∀ j, j < rs.length → (at_ (swL rs i k) j).ca = (at_ rs (sg i k j)).ca := fun j hj => by rw [hat j hj]
  have hgs : goodB (swL rs i k) = true := by
    refine good_all (by rw [hlen]; exact (of_decide_eq_true hg : GoodP rs).1) fun j hj => ?_
    rw [hlen] at hj
    obtain ⟨f1, f2, f3⟩ := good_fit hg hj
    refine ⟨?_, fun h0 => ?_, ?_⟩
    · rw [hat j hj]
      have p1 := ok_parts f1
      have p2 := ok_parts (good_fit hg (sg_lt hil hkl hj)).1
      unfold okR
      simp only [Bool.and_eq_true, decide_eq_true_eq]
      exact ⟨p1.1, p1.2.1, p1.2.2.1, p1.2.2.2.1, p2.2.2.2.2⟩
    · rw [hid j hj, hid (j - 1) (by omega)]
      exact f2 h0
    · by_cases hz : (at_ (swL rs i k) j).ca = 0
      · rw [hz]; exact us_zero _
      · refine (us_none hz (by rw [hlen]; omega)).2 fun l hl => ?_
        rw [hca j hj] at hz ⊢
        rw [hca l (by omega)]
        exact ne_cards hg (sg_lt hil hkl (by omega)) (sg_lt hil hkl hj) (fun e => by have := sg_inj hik e; omega) hz
  have hpl : ∀ {x : Int} {p : Nat}, Plc rs x p → pl (swL rs i k) x = p := fun {x p} hp => by
    have hp' : Plc (swL rs i k) x p := ⟨by rw [hlen]; exact hp.1, fun j hj => by rw [hid j (by have := hp.1; omega)]; exact hp.2.1 j hj, fun j h1 h2 => by rw [hlen] at h2; rw [hid j h2]; exact hp.2.2 j h1 h2⟩
    have hq := plc_pl (good_asc hgs) x
    exact hp'.unique hq.1 hq.2.1 hq.2.2
  have hf1 : fndB (swL rs i k) a i = true := decide_eq_true ⟨by rw [hlen]; exact hil, by rw [hid i hil]; exact hia⟩
  have hf2 : fndB (swL rs i k) b k = true := decide_eq_true ⟨by rw [hlen]; exact hkl, by rw [hid k hkl]; exact hkb⟩
  have hs : swB (swL rs i k) a b = true := by unfold swB; rw [hpl hi, hpl hk, hgs, hf1, hf2, decide_eq_true hab]; rfl
  refine ⟨hs, ?_⟩
  unfold swA
  rw [hs, if_pos rfl, hpl hi, hpl hk]
  refine ext_at (by rw [sw_len, hlen]) fun j hj => ?_
  rw [sw_len, hlen] at hj
  rw [sw_at (by rw [hlen]; exact hil) (by rw [hlen]; exact hkl) hik j (by rw [hlen]; exact hj), hca _ (sg_lt hil hkl hj), sg_sg hik, hat j hj]
theorem set_all {P : Ru → Prop} {rs : List Ru} {i k : Nat} (h : ∀ j, j < rs.length → P (at_ rs j)) (hP : ∀ (r : Ru) (z : Int), P r → P { r with ca := z }) (hi : i < rs.length) (hk : k < rs.length) (hik : i ≠ k) : ∀ j, j < (swL rs i k).length → P (at_ (swL rs i k) j) := fun j hj => by
  rw [sw_len] at hj
  rw [sw_at hi hk hik j hj]
  exact hP _ _ (h j hj)
theorem swA_is {rs : List Ru} {a b : Int} (h : ∀ j, j < rs.length → Is (at_ rs j)) : ∀ j, j < (swA rs a b).length → Is (at_ (swA rs a b) j) := by
  unfold swA
  split
  · rename_i hs
    unfold swB at hs
    simp only [Bool.and_eq_true] at hs
    obtain ⟨hg, hab, h1, h2⟩ := hs
    have hab := of_decide_eq_true hab
    obtain ⟨hil, hia⟩ := of_decide_eq_true h1
    obtain ⟨hkl, hkb⟩ := of_decide_eq_true h2
    exact set_all h (fun r z hr => ⟨hr.nm, hr.cl⟩) hil hkl (fun e => hab (by rw [← hia, ← hkb, e]))
  · exact fun j hj => absurd hj (Nat.not_lt_zero _)
end Go.Proofs.YtjngnjokbnklfaaDoor.RnrM

namespace Go.Proofs.YtjngnjokbnklfaaDoor.RnrD
open Go.RowKit Lb Bk Cur RuK RuI RuDr CodB Fmt RuT
set_option linter.unusedSimpArgs false
set_option linter.unusedVariables false

theorem set_grown (w : World) (a : Addr) (v : Value) : w.grownBy (w.setCell a v) (some a.block) := ⟨rfl, rfl, rfl, by simp [World.setCell], fun k _ hk => heap_setCell_other w a k v (fun e => hk (by simp [e]))⟩
theorem below_of {B : Nat} {w w1 W : World} {b : Nat} (hb : Below B w w1) (hg : w1.grownBy W (some b)) (h1 : B ≤ w1.heap.size) (h2 : B ≤ b) : Below B w W :=
  hb.trans ⟨hg.os, hg.tape, hg.output, hg.size, fun k hk => hg.block k (by omega) (fun e => by cases e; omega)⟩
/-- The list that was drawn, at the end. -/
structure Dl (w W : World) (v : Value) (fs : List Lb.Ru) : Prop where
  le : fs.length ≤ 11
  is : ∀ i, i < fs.length → Is (at_ fs i)
  own : RuK.Own W w.heap.size v fs
  B : Below w.heap.size w W

set_option maxHeartbeats 1000000 in
theorem is_any (a : Option Addr) (n cap : Nat) (xs : Nat → Nat) (w : World) (hc : Bytes w a n xs) :
    Calls Tryd.prog 25 #[.slice a n cap] w fun e w' => (∃ f : Ru, e = .returned (.agg #[.int .i64 f.id, .string f.nm, .string f.cl, .int .i64 f.bo, .bool f.wo, .int .i64 f.ca]) ∧ Is f) ∧ Below w.heap.size w w' := by
  have hb0 : Below w.heap.size w (w.alloc (.cells #[.int .i64 no.id, .string no.nm, .string no.cl, .int .i64 no.bo, .bool no.wo, .int .i64 no.ca] 25)) := (Below.refl _ _).alloc (Nat.le_refl _) _
  have HK := Lib.hid ((Blk.new w 25 #[.int .i64 no.id, .string no.nm, .string no.cl, .int .i64 no.bo, .bool no.wo, .int .i64 no.ca]).alloc (.cells #[.slice a n cap, .int .i64 0, .int .u64 0] 60))
  have hbg := begin_ (hc.below hb0) cap
  rw [World.size_alloc] at hbg
  have HR := Lib.hid hbg
  have HB := Lib.hid (hb0.alloc hb0.size (.cells #[.slice a n cap, .int .i64 0, .int .u64 0] 60))
  clear hc hb0 hbg
  go_enter Tryd.func25, Tryd.ntmps25
  go_wp2_with fail
  refine (among_new (w.heap.size + 1) 0 3 [1, 42, 999] _ (by first | rfl | simp) (by omega) rfl (by decide) (by decide) HR.out).mono ?_
  rintro e w1 ⟨⟨z, rfl, -⟩, hok, hg⟩
  have HO := Lib.hid hok
  have HB1 := Lib.hid (below_of HB.out hg HB.out.size (Nat.le_succ _))
  have HK1 := Lib.hid (blk_grown HK.out hg (fun e => by simp at e))
  clear hok hg HR HB HK
  go_wp2_with fail
  refine (RuDo.runner_any (w.heap.size + 1) _ z _ (by omega) HO.out).mono ?_
  rintro e w2 ⟨⟨f, rfl, hf⟩, hok, hg⟩
  have HI := Lib.hid (RuLs.sm_is hf)
  have HB2 := Lib.hid (below_of HB1.out hg HB1.out.size (Nat.le_succ _))
  have HK2 := Lib.hid (blk_grown HK1.out hg (fun e => by simp at e))
  clear hok hg hf HB1 HK1 HO
  obtain ⟨⟨r0, r1, r2, r3, r4, r5⟩, y0, y1, y2, y3, y4, y5⟩ := blk_cells HK2.out
  go_wp2
  clear r0 r1 r2 r3 r4 r5 y0 y1 y2 y3 y4 y5
  have hz := blk_all HK2.out f
  have HB9 := Lib.hid (HB2.out.trans (hz.2 w.heap.size (Nat.le_refl _)))
  replace hz := hz.1
  generalize (World.setCell (World.setCell (World.setCell _ _ _) _ _) _ _) = w9 at *
  obtain ⟨⟨u0, u1, u2, u3, u4, u5⟩, -⟩ := blk_cells hz
  exact bodyPost_ret (v := .agg #[.int .i64 f.id, .string f.nm, .string f.cl, .int .i64 f.bo, .bool f.wo, .int .i64 f.ca]) (by simp [results, Tryd.results25, go_sem, u0, u1, u2, u3, u4, u5]) rfl ⟨⟨f, rfl, HI.out⟩, HB9.out⟩
set_option maxHeartbeats 1000000 in
theorem text_any (a : Option Addr) (n cap : Nat) (xs : Nat → Nat) (w : World) (hc : Bytes w a n xs) :
    Calls Tryd.prog 6 #[.slice a n cap] w fun e w' => (∃ f : Ru, e = .returned (.agg #[.int .i64 f.id, .string f.nm, .string f.cl, .int .i64 f.bo, .bool f.wo, .int .i64 f.ca]) ∧ Is f) ∧ Below w.heap.size w w' := by
  have hb0 : Below w.heap.size w (w.alloc (.cells #[.int .i64 no.id, .string no.nm, .string no.cl, .int .i64 no.bo, .bool no.wo, .int .i64 no.ca] 25)) := (Below.refl _ _).alloc (Nat.le_refl _) _
  have HK := Lib.hid (Blk.new w 25 #[.int .i64 no.id, .string no.nm, .string no.cl, .int .i64 no.bo, .bool no.wo, .int .i64 no.ca])
  have HC := Lib.hid (hc.below hb0)
  have HB := Lib.hid hb0
  clear hc hb0
  go_enter Tryd.func6, Tryd.ntmps6
  go_wp2_with fail
  refine (is_any a n cap xs _ HC.out).mono ?_
  rintro e w1 ⟨⟨f, rfl, hf⟩, hb⟩
  have HI := Lib.hid hf
  have HB2 := Lib.hid (HB.out.trans (hb.mono HB.out.size))
  have HK2 := Lib.hid (HK.out.later hb)
  clear hb hf HB HK HC
  obtain ⟨⟨r0, r1, r2, r3, r4, r5⟩, y0, y1, y2, y3, y4, y5⟩ := blk_cells HK2.out
  go_wp2
  clear r0 r1 r2 r3 r4 r5 y0 y1 y2 y3 y4 y5
  have hz := blk_all HK2.out f
  have HB9 := Lib.hid (HB2.out.trans (hz.2 w.heap.size (Nat.le_refl _)))
  replace hz := hz.1
  generalize (World.setCell (World.setCell (World.setCell _ _ _) _ _) _ _) = w9 at *
  obtain ⟨⟨u0, u1, u2, u3, u4, u5⟩, -⟩ := blk_cells hz
  exact bodyPost_ret (v := .agg #[.int .i64 f.id, .string f.nm, .string f.cl, .int .i64 f.bo, .bool f.wo, .int .i64 f.ca]) (by simp [results, Tryd.results6, go_sem, u0, u1, u2, u3, u4, u5]) rfl ⟨⟨f, rfl, HI.out⟩, HB9.out⟩
set_option maxHeartbeats 1000000 in
theorem parse_any (a : Option Addr) (n cap : Nat) (xs : Nat → Nat) (w : World) (hc : Bytes w a n xs) :
    Calls Tryd.prog 11 #[.slice a n cap] w fun e w' => (∃ s : ByteArray, e = .returned (.string s) ∧ s.size ≤ 8001) ∧ Below w.heap.size w w' := by
  have HR := Lib.hid (begin_ hc cap)
  have HB := Lib.hid ((Below.refl w.heap.size w).alloc (Nat.le_refl _) (.cells #[.slice a n cap, .int .i64 0, .int .u64 0] 60))
  clear hc
  go_enter Tryd.func11, Tryd.ntmps11
  go_wp2_with fail
  refine (among_new w.heap.size 0 3 [1, 42, 999] _ (by first | rfl | simp) (by omega) rfl (by decide) (by decide) HR.out).mono ?_
  rintro e w1 ⟨⟨z, rfl, -⟩, hok, hg⟩
  have HO := Lib.hid hok
  have HB1 := Lib.hid (below_of HB.out hg HB.out.size (Nat.le_refl _))
  clear hok hg HR HB
  go_wp2_with fail
  refine (RuDo.runner_any w.heap.size _ z _ (by omega) HO.out).mono ?_
  rintro e w2 ⟨⟨f, rfl, hf⟩, hok, hg⟩
  have HI := Lib.hid (RuLs.sm_is hf)
  have HO2 := Lib.hid hok
  have HB2 := Lib.hid (below_of HB1.out hg HB1.out.size (Nat.le_refl _))
  clear hok hg hf HB1 HO
  go_wp2_with fail
  refine (RuT.spec_any f HI.out _).mono ?_
  rintro e w3 ⟨rfl, hb⟩
  have hts : (rtx f).size ≤ 60 := by
    unfold rtx
    split
    · rename_i h; exact RpM.tx_size h
    · exact Nat.zero_le _
  have HO3 := Lib.hid (HO2.out.below hb)
  have HB3 := Lib.hid (HB2.out.trans (hb.mono HB2.out.size))
  obtain ⟨t, ht⟩ : ∃ t, rtx f = t := ⟨_, rfl⟩
  obtain ⟨o, ho⟩ : ∃ o, okR f = o := ⟨_, rfl⟩
  rw [ht] at hts
  rw [ht, ho]
  clear hb HO2 HB2 ht ho HI
  go_wp2_with fail
  refine (one_any w.heap.size _ 4 _ (by omega) (by omega) (by omega) HO3.out).mono ?_
  rintro e w4 ⟨⟨q, rfl⟩, hok, hg⟩
  have HO4 := Lib.hid hok
  have HB4 := Lib.hid (below_of HB3.out hg HB3.out.size (Nat.le_refl _))
  clear hok hg HO3 HB3
  cases q with
  | false =>
    go_wp2
    go_ret
    exact ⟨⟨t, rfl, by omega⟩, HB4.out⟩
  | true =>
    go_wp2_with fail
    refine (DrG.spoilt_any w.heap.size _ t ⟨#[48, 32, 119, 109, 111, 49]⟩ _ (by omega) (by omega) (by decide) (by decide) HO4.out).mono ?_
    rintro e w5 ⟨⟨s, rfl, hs⟩, hok, hg⟩
    have HB5 := Lib.hid (below_of HB4.out hg HB4.out.size (Nat.le_refl _))
    clear hok hg HO4 HB4
    go_wp2
    go_ret
    exact ⟨⟨s, rfl, hs⟩, HB5.out⟩
set_option maxHeartbeats 1000000 in
theorem add_any (a : Option Addr) (n cap : Nat) (xs : Nat → Nat) (w : World) (hc : Bytes w a n xs) :
    Calls Tryd.prog 13 #[.slice a n cap] w fun e w' => ∃ v fs f, e = .returned (.tuple #[v, .agg #[.int .i64 f.id, .string f.nm, .string f.cl, .int .i64 f.bo, .bool f.wo, .int .i64 f.ca]]) ∧ Is f ∧ Dl w w' v fs := by
  have hb0 : Below w.heap.size w (w.alloc (.cells #[.int .i64 no.id, .string no.nm, .string no.cl, .int .i64 no.bo, .bool no.wo, .int .i64 no.ca] 25)) := (Below.refl _ _).alloc (Nat.le_refl _) _
  have HK := Lib.hid ((Blk.new w 25 #[.int .i64 no.id, .string no.nm, .string no.cl, .int .i64 no.bo, .bool no.wo, .int .i64 no.ca]).alloc (.cells #[.slice a n cap, .int .i64 0, .int .u64 0] 60))
  have hbg := begin_ (hc.below hb0) cap
  rw [World.size_alloc] at hbg
  have HR := Lib.hid hbg
  have HB := Lib.hid (hb0.alloc hb0.size (.cells #[.slice a n cap, .int .i64 0, .int .u64 0] 60))
  clear hc hb0 hbg
  go_enter Tryd.func13, Tryd.ntmps13
  go_wp2_with fail
  refine (RuLs.runners_any (w.heap.size + 1) 0 _ (by omega) HR.out).mono ?_
  rintro e w1 ⟨v, fs, rfl, hle, his, hl⟩
  have HL := Lib.hid hl
  have HI := Lib.hid his
  have HB1 := Lib.hid (below_of HB.out hl.G HB.out.size (Nat.le_succ _))
  have HK1 := Lib.hid (blk_grown HK.out hl.G (fun e => by simp at e))
  have HV := Lib.hid (show ∀ k, v.ownBlock = some k → w.heap.size + 1 ≤ k from fun k e => by
    have := (World.ownsRow.lt hl.L k e).1
    simp at this
    omega)
  clear hl his HR HK HB
  go_wp2_with fail
  refine (pick_any (w.heap.size + 1) _ 12 _ (by omega) (by omega) (by omega) HL.out.ok).mono ?_
  rintro e w2 ⟨⟨p, rfl, hp, _⟩, hok, hg⟩
  have HL2 := Lib.hid (HL.out.step hok hg)
  have HB2 := Lib.hid (below_of HB1.out hg HB1.out.size (Nat.le_succ _))
  have HK2 := Lib.hid (blk_grown HK1.out hg (fun e => by simp at e))
  clear hok hg HL HB1 HK1
  go_wp2_with fail
  refine (RuDo.runner_any (w.heap.size + 1) _ _ _ (by omega) HL2.out.ok).mono ?_
  rintro e w3 ⟨⟨f, rfl, hf⟩, hok, hg⟩
  have HF := Lib.hid (RuLs.sm_is hf)
  have HL3 := Lib.hid (HL2.out.step hok hg)
  have HB3 := Lib.hid (below_of HB2.out hg HB2.out.size (Nat.le_succ _))
  have HK3 := Lib.hid (blk_grown HK2.out hg (fun e => by simp at e))
  clear hok hg hf HL2 HB2 HK2
  obtain ⟨⟨r0, r1, r2, r3, r4, r5⟩, y0, y1, y2, y3, y4, y5⟩ := blk_cells HK3.out
  go_wp2
  clear r0 r1 r2 r3 r4 r5 y0 y1 y2 y3 y4 y5
  have hz := blk_all HK3.out f
  have hG := Lib.hid (gtrans (gtrans (gtrans (gtrans (gtrans (set_grown w3 ⟨w.heap.size, 0, none⟩ (.int .i64 f.id)) (set_grown _ ⟨w.heap.size, 1, none⟩ (.string f.nm))) (set_grown _ ⟨w.heap.size, 2, none⟩ (.string f.cl))) (set_grown _ ⟨w.heap.size, 3, none⟩ (.int .i64 f.bo))) (set_grown _ ⟨w.heap.size, 4, none⟩ (.bool f.wo))) (set_grown _ ⟨w.heap.size, 5, none⟩ (.int .i64 f.ca)))
  have HB9 := Lib.hid (HB3.out.trans (hz.2 w.heap.size (Nat.le_refl _)))
  replace hz := hz.1
  generalize (World.setCell (World.setCell (World.setCell _ _ _) _ _) _ _) = w9 at *
  have HO9 := Lib.hid (show RuK.Own w9 w.heap.size v fs from RuK.Own.rebase (World.ownsRow.kept HL3.out.L hG.out (.inr (fun e => absurd (HV.out _ e) (Nat.not_succ_le_self _)))) (by simp; omega))
  obtain ⟨⟨u0, u1, u2, u3, u4, u5⟩, -⟩ := blk_cells hz
  exact bodyPost_ret (v := .tuple #[v, .agg #[.int .i64 f.id, .string f.nm, .string f.cl, .int .i64 f.bo, .bool f.wo, .int .i64 f.ca]]) (by simp [results, Tryd.results13, go_sem, u0, u1, u2, u3, u4, u5]) rfl ⟨v, fs, f, rfl, HF.out, hle, HI.out, HO9.out, HB9.out⟩
set_option maxHeartbeats 1000000 in
theorem id_any (b m : Nat) (a : Option Addr) (cap : Nat) (fs : List Ru) (w : World) (hm : m ≤ 1152921504606846000) (hl : fs.length ≤ 11) (hr : Row w a fs) (hne : ∀ x, a = some x → x.block ≠ b) (hok : Ok w b m) :
    Calls Tryd.prog 47 #[.pointer (some ⟨b, 0, none⟩), .slice a fs.length cap] w fun e w' => (∃ z : Int, e = .returned (.int .i64 z)) ∧ Ok w' b (m + 6) ∧ w.grownBy w' (some b) := by
  have HO := Lib.hid hok
  have HR := Lib.hid hr
  have HN := Lib.hid hne
  clear hok hr hne
  obtain ⟨n, hn⟩ : ∃ n, fs.length = n := ⟨_, rfl⟩
  have HL := Lib.hid hn
  rw [hn] at hl ⊢
  clear hn
  by_cases h0 : n = 0
  · subst h0
    go_enter Tryd.func47, Tryd.ntmps47
    go_wp2_with fail
    refine (among_new b m 3 [0, 1, 500] _ (by first | rfl | simp) (by omega) rfl (by decide) (by decide) HO.out).mono ?_
    rintro e w1 ⟨⟨z, rfl, -⟩, hok, hg⟩
    have HO1 := Lib.hid hok
    have HG := Lib.hid hg
    clear hok hg
    go_wp2
    go_ret
    exact ⟨⟨z, rfl⟩, HO1.out.mono (by omega), HG.out⟩
  · have e0 : ((n : Int) == 0) = false := by simp; omega
    go_enter Tryd.func47, Tryd.ntmps47
    go_wp2_with fail
    refine (one_any b m 8 _ (by omega) (by omega) (by omega) HO.out).mono ?_
    rintro e w1 ⟨⟨q, rfl⟩, hok, hg⟩
    have HO1 := Lib.hid hok
    have HG := Lib.hid hg
    clear hok hg
    cases q with
    | true =>
      go_wp2_with fail
      refine (among_new b _ 3 [0, 1, 500] _ (by first | rfl | simp) (by omega) rfl (by decide) (by decide) HO1.out).mono ?_
      rintro e w2 ⟨⟨z, rfl, -⟩, hok, hg⟩
      have HO2 := Lib.hid hok
      have HG2 := Lib.hid (gtrans HG.out hg)
      clear hok hg
      go_wp2
      go_ret
      exact ⟨⟨z, rfl⟩, HO2.out.mono (by omega), HG2.out⟩
    | false =>
      go_wp2_with fail
      refine (pick_any b _ n _ (by omega) (by omega) (by omega) HO1.out).mono ?_
      rintro e w2 ⟨⟨r, rfl, _, hr'⟩, hok, hg⟩
      have hlt : r < n := by omega
      have HO2 := Lib.hid hok
      have HG2 := Lib.hid (gtrans HG.out hg)
      obtain ⟨g, off, rfl, c0, -⟩ := (HR.out.beside HG2.out (fun x e h => HN.out x e (by simpa using h.symm))).cells (i := r) (by rw [HL.out]; exact hlt)
      obtain ⟨z, hz⟩ : ∃ z, (at_ fs r).id = z := ⟨_, rfl⟩
      rw [hz] at c0
      clear hok hg hz hr'
      go_wp2
      go_ret
      exact ⟨⟨z, rfl⟩, HO2.out.mono (by omega), HG2.out⟩
set_option maxHeartbeats 1000000 in
theorem swap_any (a : Option Addr) (n cap : Nat) (xs : Nat → Nat) (w : World) (hc : Bytes w a n xs) :
    Calls Tryd.prog 19 #[.slice a n cap] w fun e w' => ∃ v fs y z, e = .returned (.tuple #[v, .int .i64 y, .int .i64 z]) ∧ Dl w w' v fs := by
  have HR := Lib.hid (begin_ hc cap)
  have HB := Lib.hid ((Below.refl w.heap.size w).alloc (Nat.le_refl _) (.cells #[.slice a n cap, .int .i64 0, .int .u64 0] 60))
  clear hc
  go_enter Tryd.func19, Tryd.ntmps19
  go_wp2_with fail
  refine (RuLs.runners_any w.heap.size 0 _ (by omega) HR.out).mono ?_
  rintro e w1 ⟨v, fs, rfl, hle, his, hl⟩
  have HL := Lib.hid hl
  have HI := Lib.hid his
  have HV := Lib.hid (show v.ownBlock ≠ some w.heap.size from fun e => by
    have := (World.ownsRow.lt hl.L _ e).1
    have h2 := hl.lb
    omega)
  obtain ⟨a1, c1, hv, -, -⟩ := hl.L.slice
  subst hv
  have HA := Lib.hid (show ∀ x, a1 = some x → x.block ≠ w.heap.size from fun x e h => HV.out (by rw [e]; simp [Value.ownBlock, h]))
  clear hl his HR
  go_wp2_with fail
  refine (id_any w.heap.size _ a1 c1 fs _ (by omega) hle (RuK.Own.row HL.out.L) HA.out HL.out.ok).mono ?_
  rintro e w2 ⟨⟨y, rfl⟩, hok, hg⟩
  have HL2 := Lib.hid (HL.out.step hok hg)
  clear hok hg HL
  go_wp2_with fail
  refine (id_any w.heap.size _ a1 c1 fs _ (by omega) hle (RuK.Own.row HL2.out.L) HA.out HL2.out.ok).mono ?_
  rintro e w3 ⟨⟨z, rfl⟩, hok, hg⟩
  have HL3 := Lib.hid (HL2.out.step hok hg)
  clear hok hg HL2
  go_wp2
  go_ret3
  exact ⟨_, fs, y, z, rfl, hle, HI.out, RuK.Own.rebase HL3.out.L HB.out.size, below_of HB.out HL3.out.G HB.out.size (Nat.le_refl _)⟩
theorem row_new (w : World) (zs : List Int) : IntRow (w.alloc (.cells (zs.map (Value.int .i64)).toArray 3)) (some ⟨w.heap.size, 0, none⟩) zs :=
  .inr ⟨w.heap.size, 0, rfl, fun k hk => by rw [Nat.zero_add]; exact (Blk.new w 3 (zs.map (Value.int .i64)).toArray).cell k (by simp [hk])⟩
theorem row_cut {w : World} {a : Option Addr} {zs : List Int} (h : IntRow w a zs) (k : Nat) (hk : k ≤ zs.length) : IntRow w a (zs.take k) := by
  rcases h with h | ⟨b, off, rfl, hc⟩
  · exact .inl (by rw [List.length_take]; omega)
  · refine .inr ⟨b, off, rfl, fun j hj => ?_⟩
    rw [List.length_take] at hj
    rw [hc j (by omega)]
    simp [show j < k by omega, show j < zs.length by omega]
theorem row_grown {w w' : World} {a : Option Addr} {zs : List Int} {r : Option Nat} (h : IntRow w a zs) (hg : w.grownBy w' r) (hr : ∀ x, a = some x → r ≠ some x.block) : IntRow w' a zs := by
  rcases h with h | ⟨b, off, rfl, hc⟩
  · exact .inl h
  · exact .inr ⟨b, off, rfl, fun j hj => hg.cell (hc j hj) (fun e => hr _ rfl (by simpa using e.symm))⟩
set_option maxHeartbeats 1000000 in
theorem with_any (a : Option Addr) (n cap : Nat) (xs : Nat → Nat) (w : World) (hc : Bytes w a n xs) :
    Calls Tryd.prog 22 #[.slice a n cap] w fun e w' => ∃ v fs z, e = .returned (.tuple #[v, .int .i64 z]) ∧ Dl w w' v fs := by
  have HR := Lib.hid (begin_ hc cap)
  have HB := Lib.hid ((Below.refl w.heap.size w).alloc (Nat.le_refl _) (.cells #[.slice a n cap, .int .i64 0, .int .u64 0] 60))
  clear hc
  go_enter Tryd.func22, Tryd.ntmps22
  go_wp2_with fail
  refine (RuLs.runners_any w.heap.size 0 _ (by omega) HR.out).mono ?_
  rintro e w1 ⟨v, fs, rfl, hle, his, hl⟩
  have HL := Lib.hid hl
  have HI := Lib.hid his
  have hlt := hl.G.size
  clear hl his HR
  have hB1 := (Below.refl w1.heap.size w1).alloc (Nat.le_refl _) (.cells (([1, 7, 8, 815, 9999, 0, 10000] : List Int).map (Value.int .i64)).toArray 3)
  have HR1 := Lib.hid (row_new w1 [1, 7, 8, 815, 9999, 0, 10000])
  have HL1 := Lib.hid (HL.out.below hB1)
  have hsz : w.heap.size < w1.heap.size := Nat.lt_of_lt_of_le (by simp) hlt
  clear hB1 HL hlt
  go_wp2_with fail
  refine (pick_any w.heap.size _ 24 _ (by omega) (by omega) (by omega) HL1.out.ok).mono ?_
  rintro e w2 ⟨⟨p, rfl, hp, hp'⟩, hok, hg⟩
  have hp24 : p < 24 := by omega
  have HL2 := Lib.hid (HL1.out.step hok hg)
  have HR2 := Lib.hid (row_grown HR1.out hg (fun x e => by cases e; simp; omega))
  obtain ⟨k, hk⟩ : ∃ k, p / 11 = k := ⟨_, rfl⟩
  have hk2 : k ≤ 2 := by omega
  have ht : ((p : Int).tdiv 11) = (k : Int) := by rw [Int.tdiv_eq_ediv_of_nonneg (by omega)]; omega
  have hw1 : IntKind.i64.wrap ((p : Int).tdiv 11) = (k : Int) := by rw [ht]; exact IntWalk.i64_in _ (by omega)
  have hw2 : IntKind.i64.wrap (5 + (k : Int)) = ((5 + k : Nat) : Int) := by rw [IntWalk.i64_in _ (by omega)]; omega
  have h7 : 5 + k ≤ 7 := by omega
  have h7' : ((5 + k : Nat) : Int) ≤ 7 := by omega
  clear hok hg HL1 HR1 hp hp' hp24
  have HAm := Lib.hid (fun m hm ok => among_row w.heap.size m (some ⟨w1.heap.size, 0, none⟩) 7 ([1, 7, 8, 815, 9999, 0, 10000].take (5 + k)) w2 hm (by simp; omega) (by simp; omega) (row_cut HR2.out (5 + k) (by simp; omega)) (fun x e => by cases e; exact fun e => absurd e (by show w1.heap.size ≠ w.heap.size; omega)) ok)
  rw [show (([1, 7, 8, 815, 9999, 0, 10000] : List Int).take (5 + k)).length = 5 + k from by simp; omega] at HAm
  go_wp2_with fail
  refine (HAm.out _ (by omega) HL2.out.ok).mono ?_
  rintro e w3 ⟨⟨z, rfl, -⟩, hok, hg⟩
  have HL3 := Lib.hid (HL2.out.step hok hg)
  clear hok hg HL2 HR2 HAm
  go_wp2
  go_ret2
  exact ⟨_, fs, z, rfl, hle, HI.out, RuK.Own.rebase HL3.out.L HB.out.size, below_of HB.out HL3.out.G HB.out.size (Nat.le_refl _)⟩
set_option maxHeartbeats 1000000 in
theorem same_any (a b : Option Addr) (cap cap' n : Nat) (rs : List Ru) (w : World) (hn : rs.length = n) (hr : Row w a rs) (hr' : Row w b rs) (hl : n ≤ 1048576) :
    Calls Tryd.prog 16 #[.slice a n cap, .slice b n cap'] w fun e w' => e = .returned (.bool true) ∧ Below w.heap.size w w' := by
  have H := Lib.hid hr
  have H' := Lib.hid hr'
  clear hr hr'
  go_enter Tryd.func16, Tryd.ntmps16
  go_wp2
  go_loopw [5] (fun i wr => ∃ k : Nat, k ≤ n ∧ i = .int .i64 k ∧ Still w wr) (fun i _ => n - (intOf i).toNat)
  case atStart => exact ⟨0, Nat.zero_le _, rfl, Still.refl _⟩
  case round =>
    obtain ⟨k, hk, rfl, hst⟩ := hrel
    obtain ⟨q, rfl⟩ := hst
    by_cases hlt : k < n
    · obtain ⟨b1, off1, rfl, c0, c1, c2, c3, c4, c5⟩ := H.out.cells (i := k) (by omega)
      obtain ⟨b2, off2, rfl, d0, d1, d2, d3, d4, d5⟩ := H'.out.cells (i := k) (by omega)
      obtain ⟨y, hy⟩ : ∃ y, at_ rs k = y := ⟨_, rfl⟩
      rw [hy] at c0 c1 c2 c3 c4 c5 d0 d1 d2 d3 d4 d5
      clear hy
      go_wp2
      go_quiet (fail)
      go_wp2
      go_roundw
      case rel => exact ⟨k + 1, by omega, by go_num, ⟨_, rfl⟩⟩
      case measure => simp [intOf]; omega
    · go_wp2
      go_ret
      exact ⟨rfl, Still.below ⟨_, rfl⟩ _⟩
end Go.Proofs.YtjngnjokbnklfaaDoor.RnrD

namespace Go.Proofs.YtjngnjokbnklfaaDoor.RnrW
open Go.RowKit Lb Bk RuK RuI AdA RuW CodB Fmt RuT RpM
set_option linter.unusedSimpArgs false
set_option linter.unusedVariables false

set_option maxRecDepth 100000 in
set_option maxHeartbeats 4000000 in
theorem law_any (W : World) (hG : Prs.Glob W) (a : Option Addr) (n cap : Nat) (xs : Nat → Nat) (hc : Bytes W a n xs) :
    Calls Tryd.prog 3 #[.slice a n cap] W fun e w' => e = .returned (.bool true) ∧ Below W.heap.size W w' := by
  have HC := Lib.hid (fun w' (hb : Below W.heap.size W w') => hc.below hb)
  have HG := Lib.hid (fun w' (hb : Below W.heap.size W w') => Prs.Glob.below hG hb)
  have c1 := Lib.hid (RnrD.text_any a n cap xs W hc)
  clear hc hG
  by_cases hbig : 65536 < n
  · go_enter Tryd.func3, Tryd.ntmps3
    go_wp2
    go_ret
    exact ⟨rfl, Below.refl _ _⟩
  go_enter Tryd.func3, Tryd.ntmps3
  go_wp2_with (go_at_call 5; go_in)
  refine c1.out.mono ?_
  rintro e w1 ⟨⟨f, rfl, hf⟩, hb⟩
  have B := Lib.hid hb
  have HF := Lib.hid hf
  clear hb hf c1
  have hb := (Below.refl w1.heap.size w1).alloc (Nat.le_refl _) (.cells #[.int .i64 f.id, .string f.nm, .string f.cl, .int .i64 f.bo, .bool f.wo, .int .i64 f.ca] 25)
  replace B := Lib.hid (B.out.trans (hb.mono B.out.size))
  have K3 := Lib.hid (Blk.new w1 25 #[.int .i64 f.id, .string f.nm, .string f.cl, .int .i64 f.bo, .bool f.wo, .int .i64 f.ca])
  clear hb
  go_upto_region 4 with (fail)
  generalize w1.alloc (.cells #[.int .i64 f.id, .string f.nm, .string f.cl, .int .i64 f.bo, .bool f.wo, .int .i64 f.ca] 25) = w2 at *
  obtain ⟨⟨p0, p1, p2, p3, p4, p5⟩, -⟩ := RuK.blk_cells K3.out
  go_wp2_with fail
  refine (RuQ.impl_any f HF.out _ (HG.out _ B.out).tab).mono ?_
  rintro e w3 ⟨rfl, hb⟩
  clear p0 p1 p2 p3 p4 p5
  replace B := Lib.hid (B.out.trans (hb.mono B.out.size))
  replace K3 := Lib.hid (K3.out.later hb)
  clear hb
  obtain ⟨⟨p0, p1, p2, p3, p4, p5⟩, -⟩ := RuK.blk_cells K3.out
  go_wp2_with fail
  refine (RuT.spec_any f HF.out _).mono ?_
  rintro e w4 ⟨rfl, hb⟩
  clear p0 p1 p2 p3 p4 p5
  replace B := Lib.hid (B.out.trans (hb.mono B.out.size))
  replace K3 := Lib.hid (K3.out.later hb)
  clear hb
  obtain ⟨⟨p0, p1, p2, p3, p4, p5⟩, -⟩ := RuK.blk_cells K3.out
  have hts := RnrM.rtx_size f
  have HT := Lib.hid (RnrM.back (r := f))
  obtain ⟨t, ht⟩ : ∃ t, rtx f = t := ⟨_, rfl⟩
  obtain ⟨k, hk⟩ : ∃ k, okR f = k := ⟨_, rfl⟩
  have HI := Lib.hid (fun w => hk ▸ RuI.impl_any f HF.out w)
  rw [ht] at hts HT
  rw [hk] at HT
  rw [ht, hk]
  clear ht hk
  go_wp2_with fail
  refine (HI.out _).mono ?_
  rintro e w5 ⟨rfl, hb⟩
  clear p0 p1 p2 p3 p4 p5
  replace B := Lib.hid (B.out.trans (hb.mono B.out.size))
  replace K3 := Lib.hid (K3.out.later hb)
  clear hb HI HF
  go_wp2_with fail
  refine (RpI.impl_any t (by omega) _ (HG.out _ B.out)).mono ?_
  rintro e w6 ⟨rfl, hb⟩
  replace B := Lib.hid (B.out.trans (hb.mono B.out.size))
  replace K3 := Lib.hid (K3.out.later hb)
  clear hb hts
  obtain ⟨r, hr⟩ : ∃ r, ansR t = r := ⟨_, rfl⟩
  obtain ⟨q, hq⟩ : ∃ q, okS t = q := ⟨_, rfl⟩
  rw [hr, hq] at HT
  rw [hr, hq]
  clear hr hq
  have hb := (Below.refl w6.heap.size w6).alloc (Nat.le_refl _) (.cells #[.int .i64 r.id, .string r.nm, .string r.cl, .int .i64 r.bo, .bool r.wo, .int .i64 r.ca] 25)
  replace B := Lib.hid (B.out.trans (hb.mono B.out.size))
  replace K3 := Lib.hid (K3.out.later hb)
  have K8 := Lib.hid (Blk.new w6 25 #[.int .i64 r.id, .string r.nm, .string r.cl, .int .i64 r.bo, .bool r.wo, .int .i64 r.ca])
  clear hb
  go_upto_region 9 with (fail)
  generalize w6.alloc (.cells #[.int .i64 r.id, .string r.nm, .string r.cl, .int .i64 r.bo, .bool r.wo, .int .i64 r.ca] 25) = w7 at *
  go_cut [80] from 71 to 79 (fun v wx => v = .bool false ∧ Below W.heap.size W wx)
  case first =>
    cases k with
    | false =>
      go_wp2
      go_meet
      exact ⟨rfl, B.out⟩
    | true =>
      obtain ⟨h1, h2⟩ := HT.out rfl
      subst h1 h2
      obtain ⟨⟨p0, p1, p2, p3, p4, p5⟩, -⟩ := RuK.blk_cells K3.out
      obtain ⟨⟨q0, q1, fp, q3, q4, q5⟩, -⟩ := RuK.blk_cells K8.out
      go_wp2
      go_meet
      exact ⟨rfl, B.out⟩
  case rest =>
  obtain ⟨rfl, hB⟩ := hcut
  have B := Lib.hid hB
  clear hB K3 K8 HT
  go_wp2_with fail
  refine (RnrD.parse_any a n cap xs _ (HC.out _ B.out)).mono ?_
  rintro e w8 ⟨⟨s, rfl, hs⟩, hb⟩
  replace B := Lib.hid (B.out.trans (hb.mono B.out.size))
  clear hb
  obtain ⟨rp, hr⟩ : ∃ r, ansR s = r := ⟨_, rfl⟩
  obtain ⟨fp, hq⟩ : ∃ q, okS s = q := ⟨_, rfl⟩
  have HPI := Lib.hid (fun w h => hr ▸ hq ▸ RpI.impl_any s (by omega) w h)
  have HPS := Lib.hid (fun w => hr ▸ hq ▸ RpS.spec_any s (by omega) w)
  clear hr hq
  go_wp2_with fail
  refine (HPI.out _ (HG.out _ B.out)).mono ?_
  rintro e w9 ⟨rfl, hb⟩
  replace B := Lib.hid (B.out.trans (hb.mono B.out.size))
  clear hb HPI
  have hb := (Below.refl w9.heap.size w9).alloc (Nat.le_refl _) (.cells #[.int .i64 rp.id, .string rp.nm, .string rp.cl, .int .i64 rp.bo, .bool rp.wo, .int .i64 rp.ca] 25)
  replace B := Lib.hid (B.out.trans (hb.mono B.out.size))
  have K11 := Lib.hid (Blk.new w9 25 #[.int .i64 rp.id, .string rp.nm, .string rp.cl, .int .i64 rp.bo, .bool rp.wo, .int .i64 rp.ca])
  clear hb
  go_upto_region 13 with (fail)
  generalize w9.alloc (.cells #[.int .i64 rp.id, .string rp.nm, .string rp.cl, .int .i64 rp.bo, .bool rp.wo, .int .i64 rp.ca] 25) = w10 at *
  go_wp2_with fail
  refine (HPS.out _).mono ?_
  rintro e w11 ⟨rfl, hb⟩
  replace B := Lib.hid (B.out.trans (hb.mono B.out.size))
  replace K11 := Lib.hid (K11.out.later hb)
  clear hb HPS
  have hb := (Below.refl w11.heap.size w11).alloc (Nat.le_refl _) (.cells #[.int .i64 rp.id, .string rp.nm, .string rp.cl, .int .i64 rp.bo, .bool rp.wo, .int .i64 rp.ca] 25)
  replace B := Lib.hid (B.out.trans (hb.mono B.out.size))
  replace K11 := Lib.hid (K11.out.later hb)
  have K13 := Lib.hid (Blk.new w11 25 #[.int .i64 rp.id, .string rp.nm, .string rp.cl, .int .i64 rp.bo, .bool rp.wo, .int .i64 rp.ca])
  clear hb
  go_upto_region 14 with (fail)
  generalize w11.alloc (.cells #[.int .i64 rp.id, .string rp.nm, .string rp.cl, .int .i64 rp.bo, .bool rp.wo, .int .i64 rp.ca] 25) = w12 at *
  obtain ⟨⟨p0, p1, p2, p3, p4, p5⟩, -⟩ := RuK.blk_cells K11.out
  obtain ⟨⟨q0, q1, q2, q3, q4, q5⟩, -⟩ := RuK.blk_cells K13.out
  have hnq : (fp != fp) = false := by simp
  go_wp2_with fail
  refine (RnrD.add_any a n cap xs _ (HC.out _ B.out)).mono ?_
  rintro e w13 ⟨v, rs, x, rfl, hx, hl⟩
  clear p0 p1 p2 p3 p4 p5
  clear q0 q1 q2 q3 q4 q5
  clear K11 K13
  have hb := hl.B
  replace B := Lib.hid (B.out.trans (hb.mono B.out.size))
  clear hnq hb
  obtain ⟨a1, c1, rfl, hrow, -⟩ := hl.own.slice
  have R1 := Lib.hid hrow
  have RI := Lib.hid hl.is
  have RL := Lib.hid (RuK.Own.le hl.own)
  have HX := Lib.hid hx
  have h11 := hl.le
  clear hl hrow hx
  have hb := (Below.refl w13.heap.size w13).alloc (Nat.le_refl _) (.cells #[.int .i64 x.id, .string x.nm, .string x.cl, .int .i64 x.bo, .bool x.wo, .int .i64 x.ca] 25)
  replace B := Lib.hid (B.out.trans (hb.mono B.out.size))
  replace R1 := Lib.hid (RuK.Row.later R1.out hb)
  have K16 := Lib.hid (Blk.new w13 25 #[.int .i64 x.id, .string x.nm, .string x.cl, .int .i64 x.bo, .bool x.wo, .int .i64 x.ca])
  clear hb
  go_upto_region 17 with (fail)
  generalize w13.alloc (.cells #[.int .i64 x.id, .string x.nm, .string x.cl, .int .i64 x.bo, .bool x.wo, .int .i64 x.ca] 25) = w14 at *
  obtain ⟨⟨p0, p1, p2, p3, p4, p5⟩, -⟩ := RuK.blk_cells K16.out
  have HAD := Lib.hid (RnrM.added (rs := rs) (x := x))
  have HAI := Lib.hid (RuLs.ad_is RI.out HX.out)
  have hal := AdS.ad_len rs x
  have CA := Lib.hid (fun w hr => AdI.impl_any rs RI.out (by omega) x HX.out a1 c1 w RL.out hr)
  have CS := Lib.hid (fun w hr => AdS.spec_any rs RI.out (by omega) x HX.out a1 c1 w RL.out hr)
  obtain ⟨zs, hz⟩ : ∃ z, adL rs x = z := ⟨_, rfl⟩
  obtain ⟨told, ho⟩ : ∃ z, adB rs x = z := ⟨_, rfl⟩
  unfold LPost at CA CS
  rw [hz, ho] at HAD CA CS
  rw [hz] at HAI hal
  obtain ⟨zn, hzn⟩ : ∃ n, zs.length = n := ⟨_, rfl⟩
  have HZN := Lib.hid hzn
  rw [hzn] at hal
  obtain ⟨ln, hln⟩ : ∃ n, rs.length = n := ⟨_, rfl⟩
  rw [hln] at CA CS
  rw [hln]
  clear hz ho hzn hln
  go_wp2_with fail
  refine (CA.out _ R1.out).mono ?_
  rintro e w15 ⟨v2, rfl, hown, hb⟩
  clear p0 p1 p2 p3 p4 p5
  replace B := Lib.hid (B.out.trans (hb.mono B.out.size))
  replace R1 := Lib.hid (RuK.Row.later R1.out hb)
  replace K16 := Lib.hid (K16.out.later hb)
  obtain ⟨a2, c2, rfl, hrow, -⟩ := hown.slice
  have R2 := Lib.hid hrow
  have R2L := Lib.hid (RuK.Own.le hown)
  clear hown hrow hb CA
  rw [HZN.out]
  rw [HZN.out] at R2L
  obtain ⟨⟨p0, p1, p2, p3, p4, p5⟩, -⟩ := RuK.blk_cells K16.out
  go_wp2_with fail
  refine (CS.out _ R1.out).mono ?_
  rintro e w16 ⟨v3, rfl, hown, hb⟩
  clear p0 p1 p2 p3 p4 p5
  replace B := Lib.hid (B.out.trans (hb.mono B.out.size))
  replace R1 := Lib.hid (RuK.Row.later R1.out hb)
  replace K16 := Lib.hid (K16.out.later hb)
  replace R2 := Lib.hid (RuK.Row.later R2.out hb)
  obtain ⟨a3, c3, rfl, hrow, -⟩ := hown.slice
  have R3 := Lib.hid hrow
  clear hown hrow hb CS
  rw [HZN.out]
  have hnt : (told != told) = false := by simp
  go_wp2_with fail
  refine (RnrD.same_any a2 a3 c2 c3 zn zs _ HZN.out R2.out R3.out (by omega)).mono ?_
  rintro e w17 ⟨rfl, hb⟩
  replace B := Lib.hid (B.out.trans (hb.mono B.out.size))
  replace R1 := Lib.hid (RuK.Row.later R1.out hb)
  replace K16 := Lib.hid (K16.out.later hb)
  replace R2 := Lib.hid (RuK.Row.later R2.out hb)
  replace R3 := Lib.hid (RuK.Row.later R3.out hb)
  clear hb hnt
  clear R3 R1
  clear RI RL h11
  have CW := Lib.hid (fun w hr => RuC.with_impl a2 c2 zs x.ca w (by rw [HZN.out]; exact R2L.out) hr HAI.out (by rw [HZN.out]; unfold maxLen; omega))
  have CG := Lib.hid (fun w hr => RuA.impl_any a2 c2 zs w (by rw [HZN.out]; exact R2L.out) hr HAI.out (by rw [HZN.out]; unfold maxLen; omega))
  rw [HZN.out] at CW CG
  go_upto_if 127 with (fail)
  go_cut [21, 22] from 128 to 152 (fun _ _ wx => Below W.heap.size W wx)
  case first =>
    cases told with
    | false =>
      go_wp2
      go_meet
      exact B.out
    | true =>
      obtain ⟨h1, h2, h3⟩ := HAD.out rfl
      rw [h1] at CG
      obtain ⟨y, hy⟩ : ∃ y, RuC.wcR zs x.ca = y := ⟨_, rfl⟩
      obtain ⟨z, hz⟩ : ∃ z, x.ca = z := ⟨_, rfl⟩
      rw [h2, hy] at CW
      rw [hy] at h3
      obtain ⟨d, hd⟩ : ∃ d, decide (0 < x.ca) = d := ⟨_, rfl⟩
      rw [hd] at CW
      have hd' : decide (0 < x.ca) = d := hd
      have HY := Lib.hid (show d = true → y = x from fun e => h3 (of_decide_eq_true (by rw [hd]; exact e)))
      clear h1 h2 h3 hy hz
      obtain ⟨⟨p0, p1, p2, p3, p4, p5⟩, -⟩ := RuK.blk_cells K16.out
      go_wp2_with fail
      refine (CW.out _ R2.out).mono ?_
      rintro e w18 ⟨rfl, hb⟩
      clear p0 p1 p2 p3 p4 p5
      replace B := Lib.hid (B.out.trans (hb.mono B.out.size))
      replace K16 := Lib.hid (K16.out.later hb)
      replace R2 := Lib.hid (RuK.Row.later R2.out hb)
      clear hb CW
      have hb := (Below.refl w18.heap.size w18).alloc (Nat.le_refl _) (.cells #[.int .i64 y.id, .string y.nm, .string y.cl, .int .i64 y.bo, .bool y.wo, .int .i64 y.ca] 25)
      replace B := Lib.hid (B.out.trans (hb.mono B.out.size))
      replace K16 := Lib.hid (K16.out.later hb)
      replace R2 := Lib.hid (RuK.Row.later R2.out hb)
      have K21 := Lib.hid (Blk.new w18 25 #[.int .i64 y.id, .string y.nm, .string y.cl, .int .i64 y.bo, .bool y.wo, .int .i64 y.ca])
      clear hb
      go_upto_region 23 with (fail)
      generalize w18.alloc (.cells #[.int .i64 y.id, .string y.nm, .string y.cl, .int .i64 y.bo, .bool y.wo, .int .i64 y.ca] 25) = w19 at *
      obtain ⟨⟨p0, p1, p2, p3, p4, p5⟩, -⟩ := RuK.blk_cells K16.out
      go_wp2_with fail
      refine (CG.out _ R2.out).mono ?_
      rintro e w20 ⟨rfl, hb⟩
      clear p0 p1 p2 p3 p4 p5
      replace B := Lib.hid (B.out.trans (hb.mono B.out.size))
      replace K16 := Lib.hid (K16.out.later hb)
      replace R2 := Lib.hid (RuK.Row.later R2.out hb)
      replace K21 := Lib.hid (K21.out.later hb)
      clear hb CG
      obtain ⟨⟨p0, p1, p2, p3, p4, p5⟩, -⟩ := RuK.blk_cells K16.out
      obtain ⟨⟨q0, q1, q2, q3, q4, q5⟩, -⟩ := RuK.blk_cells K21.out
      cases d with
      | false =>
        go_wp2
        go_meet
        exact B.out
      | true =>
        obtain rfl := (HY.out rfl).symm
        go_wp2
        go_meet
        exact B.out
  case rest =>
  have B := Lib.hid hcut
  clear hcut
  clear K16 R2 R2L CW CG HAD HAI HZN HX hal
  go_wp2_with fail
  refine (RnrD.swap_any a n cap xs _ (HC.out _ B.out)).mono ?_
  rintro e w21 ⟨v, ls, y, z, rfl, hl⟩
  have hb := hl.B
  replace B := Lib.hid (B.out.trans (hb.mono B.out.size))
  clear hb
  obtain ⟨a1, c1, rfl, hrow, -⟩ := hl.own.slice
  have R1 := Lib.hid hrow
  have RI := Lib.hid hl.is
  have RL := Lib.hid (RuK.Own.le hl.own)
  have h11 := hl.le
  clear hl hrow
  have hsl := RnrM.swA_len ls y z
  have HSI := Lib.hid (RnrM.swA_is (a := y) (b := z) RI.out)
  have HTW := Lib.hid (RnrM.sw_twice (rs := ls) (a := y) (b := z))
  obtain ⟨CS, CA⟩ := RnrM.sw_both ls RI.out (by omega) y z
  have CA := Lib.hid (fun w hr => CA a1 c1 w RL.out hr)
  have CS := Lib.hid (fun w hr => CS a1 c1 w RL.out hr)
  unfold LPost at CA CS
  obtain ⟨zs, hz⟩ : ∃ u, RnrM.swA ls y z = u := ⟨_, rfl⟩
  obtain ⟨told, ho⟩ : ∃ u, RnrM.swB ls y z = u := ⟨_, rfl⟩
  rw [hz, ho] at HTW CA CS
  rw [hz] at HSI hsl
  obtain ⟨CT, CB⟩ := RnrM.sw_both zs HSI.out (by omega) y z
  clear CT
  obtain ⟨zn, hzn⟩ : ∃ n, zs.length = n := ⟨_, rfl⟩
  have HZN := Lib.hid hzn
  obtain ⟨ln, hln⟩ : ∃ n, ls.length = n := ⟨_, rfl⟩
  have HLN := Lib.hid hln
  rw [hln, hzn] at hsl
  rw [hln] at CA CS h11
  rw [hln]
  rw [hzn] at CB
  have CB := Lib.hid CB
  clear hz ho hzn hln
  go_wp2_with fail
  refine (CA.out _ R1.out).mono ?_
  rintro e w22 ⟨v2, rfl, hown, hb⟩
  replace B := Lib.hid (B.out.trans (hb.mono B.out.size))
  replace R1 := Lib.hid (RuK.Row.later R1.out hb)
  obtain ⟨a2, c2, rfl, hrow, -⟩ := hown.slice
  have R2 := Lib.hid hrow
  have R2L := Lib.hid (RuK.Own.le hown)
  rw [HZN.out] at R2L
  clear hown hrow hb CA
  rw [HZN.out]
  go_wp2_with fail
  refine (CS.out _ R1.out).mono ?_
  rintro e w23 ⟨v3, rfl, hown, hb⟩
  replace B := Lib.hid (B.out.trans (hb.mono B.out.size))
  replace R1 := Lib.hid (RuK.Row.later R1.out hb)
  replace R2 := Lib.hid (RuK.Row.later R2.out hb)
  obtain ⟨a3, c3, rfl, hrow, -⟩ := hown.slice
  have R3 := Lib.hid hrow
  clear hown hrow hb CS
  rw [HZN.out]
  have hnt : (told != told) = false := by simp
  go_wp2_with fail
  refine (RnrD.same_any a2 a3 c2 c3 zn zs _ HZN.out R2.out R3.out (by omega)).mono ?_
  rintro e w24 ⟨rfl, hb⟩
  replace B := Lib.hid (B.out.trans (hb.mono B.out.size))
  replace R1 := Lib.hid (RuK.Row.later R1.out hb)
  replace R2 := Lib.hid (RuK.Row.later R2.out hb)
  replace R3 := Lib.hid (RuK.Row.later R3.out hb)
  clear hb hnt
  clear R3
  go_upto_if 182 with (fail)
  go_cut [30, 31] from 183 to 197 (fun _ _ wx => Below W.heap.size W wx)
  case first =>
    cases told with
    | false =>
      go_wp2
      go_meet
      exact B.out
    | true =>
      obtain ⟨h1, h2⟩ := HTW.out rfl
      have CC := Lib.hid (fun w hr => CB.out a2 c2 w R2L.out hr)
      unfold LPost at CC
      rw [h1, h2] at CC
      clear h1 h2
      go_wp2_with fail
      refine (CC.out _ R2.out).mono ?_
      rintro e w25 ⟨v4, rfl, hown, hb⟩
      replace B := Lib.hid (B.out.trans (hb.mono B.out.size))
      replace R1 := Lib.hid (RuK.Row.later R1.out hb)
      replace R2 := Lib.hid (RuK.Row.later R2.out hb)
      obtain ⟨a4, c4, rfl, hrow, -⟩ := hown.slice
      have R4 := Lib.hid hrow
      clear hown hrow hb CC
      rw [HLN.out]
      go_wp2_with fail
      refine (RnrD.same_any a4 a1 c4 c1 ln ls _ HLN.out R4.out R1.out (by omega)).mono ?_
      rintro e w26 ⟨rfl, hb⟩
      replace B := Lib.hid (B.out.trans (hb.mono B.out.size))
      replace R1 := Lib.hid (RuK.Row.later R1.out hb)
      replace R2 := Lib.hid (RuK.Row.later R2.out hb)
      replace R4 := Lib.hid (RuK.Row.later R4.out hb)
      clear hb
      go_wp2
      go_meet
      exact B.out
  case rest =>
  have B := Lib.hid hcut
  clear hcut R1 R2 R2L RI RL HSI HTW CB HZN HLN hsl h11
  go_wp2_with fail
  refine (RnrD.with_any a n cap xs _ (HC.out _ B.out)).mono ?_
  rintro e w27 ⟨v, us, z, rfl, hl⟩
  have hb := hl.B
  replace B := Lib.hid (B.out.trans (hb.mono B.out.size))
  clear hb
  obtain ⟨a1, c1, rfl, hrow, -⟩ := hl.own.slice
  have R1 := Lib.hid hrow
  have RI := Lib.hid hl.is
  have RL := Lib.hid (RuK.Own.le hl.own)
  have h11 := hl.le
  clear hl hrow
  have CI := Lib.hid (fun w hr => RuC.with_impl a1 c1 us z w RL.out hr RI.out (by unfold maxLen; omega))
  have CS := Lib.hid (fun w hr => RuC.with_spec a1 c1 us z w hr RI.out (by unfold maxLen; omega))
  obtain ⟨y, hy⟩ : ∃ y, RuC.wcR us z = y := ⟨_, rfl⟩
  obtain ⟨d, hd⟩ : ∃ d, RuC.wcB us z = d := ⟨_, rfl⟩
  obtain ⟨ln, hln⟩ : ∃ n, us.length = n := ⟨_, rfl⟩
  rw [hy, hd, hln] at CI CS
  rw [hln]
  clear hy hd hln
  go_wp2_with fail
  refine (CI.out _ R1.out).mono ?_
  rintro e w28 ⟨rfl, hb⟩
  replace B := Lib.hid (B.out.trans (hb.mono B.out.size))
  replace R1 := Lib.hid (RuK.Row.later R1.out hb)
  clear hb CI
  have hb := (Below.refl w28.heap.size w28).alloc (Nat.le_refl _) (.cells #[.int .i64 y.id, .string y.nm, .string y.cl, .int .i64 y.bo, .bool y.wo, .int .i64 y.ca] 25)
  replace B := Lib.hid (B.out.trans (hb.mono B.out.size))
  replace R1 := Lib.hid (RuK.Row.later R1.out hb)
  have K34 := Lib.hid (Blk.new w28 25 #[.int .i64 y.id, .string y.nm, .string y.cl, .int .i64 y.bo, .bool y.wo, .int .i64 y.ca])
  clear hb
  go_upto_region 36 with (fail)
  generalize w28.alloc (.cells #[.int .i64 y.id, .string y.nm, .string y.cl, .int .i64 y.bo, .bool y.wo, .int .i64 y.ca] 25) = w29 at *
  go_wp2_with fail
  refine (CS.out _ R1.out).mono ?_
  rintro e w30 ⟨rfl, hb⟩
  replace B := Lib.hid (B.out.trans (hb.mono B.out.size))
  replace R1 := Lib.hid (RuK.Row.later R1.out hb)
  replace K34 := Lib.hid (K34.out.later hb)
  clear hb CS
  have hb := (Below.refl w30.heap.size w30).alloc (Nat.le_refl _) (.cells #[.int .i64 y.id, .string y.nm, .string y.cl, .int .i64 y.bo, .bool y.wo, .int .i64 y.ca] 25)
  replace B := Lib.hid (B.out.trans (hb.mono B.out.size))
  replace R1 := Lib.hid (RuK.Row.later R1.out hb)
  replace K34 := Lib.hid (K34.out.later hb)
  have K36 := Lib.hid (Blk.new w30 25 #[.int .i64 y.id, .string y.nm, .string y.cl, .int .i64 y.bo, .bool y.wo, .int .i64 y.ca])
  clear hb
  go_upto_region 37 with (fail)
  generalize w30.alloc (.cells #[.int .i64 y.id, .string y.nm, .string y.cl, .int .i64 y.bo, .bool y.wo, .int .i64 y.ca] 25) = w31 at *
  obtain ⟨⟨p0, p1, p2, p3, p4, p5⟩, -⟩ := RuK.blk_cells K34.out
  obtain ⟨⟨q0, q1, q2, q3, q4, q5⟩, -⟩ := RuK.blk_cells K36.out
  go_wp2
  go_ret
  exact ⟨rfl, B.out⟩

end Go.Proofs.YtjngnjokbnklfaaDoor.RnrW

namespace Go.Proofs.YtjngnjokbnklfaaDoor.fnRunnersFr
open Go.ChangeShapes Go.WideShapes Go.ChangeAt Go.RowKit
open Go.ChangeMaps (open_string shut_string)
set_option linter.unusedVariables false

theorem own : ownKnob Tryd.prog.godebug = none := by kernel_rfl
theorem laidOut : laidOutB Tryd.prog = true := by kernel_rfl
theorem gPow : Tryd.prog.globalNamed "internal/strconv.uint64pow10" = some 0 := by kernel_rfl
theorem gPowType : (Tryd.prog.globals[0]?).map (·.type) = some 113 := by kernel_rfl
theorem star : "*" ++ "errors.errorString" = "*errors.errorString" := by decide
theorem row_err (u : TypeId) (h : Tryd.prog.typeName? 3 u = some "*errors.errorString") : u = 125 :=
  typeName_ptr_named (nm := "errors.errorString") (by rw [star]; kernel_rfl) (by kernel_rfl) (by decide) u (by rw [star]; exact h)

set_option maxRecDepth 100000 in
theorem contract (H : Type) (enc : TypeId × Value → H) (W : World) (base : Nat) (args : Array Value) (ds gs : List (DataW H)) (before : List MemPlace)
    (hval : ∀ (j : Nat) t v, Tryd.f3.params[j]? = some t → args[j]? = some v → Value.okWide Tryd.prog W .any base t v)
    (hW : DataW.Whole enc Tryd.prog Tryd.f3.params.toList Rows.fnRunnersSpec.vars false W args.toList ds gs before) (hL0 : laidMetH Tryd.prog Rows.fnRunnersRow.laid W) (hSh : W.ShapedOpen Tryd.prog) :
    Calls Tryd.prog 3 args W fun e W' => ∃ v, e = .returned v ∧ Rows.fnRunnersSpec.post enc Tryd.prog Tryd.f3 false true false false W args v W' := by
  have hW' := hW
  obtain ⟨p, q, hA0, hV, rfl, hfz, hnd⟩ := hW
  have hA : DataW.TrodAll enc Tryd.prog W 0 (fun _ => true) true Tryd.f3.params.toList args.toList ds p := hA0
  rw [Tryd.params3] at hA hval
  obtain ⟨v0, vs0, d0, ds0, p0, q0, hargs, rfl, rfl, h0, r0⟩ := trodAll_cons hA
  obtain ⟨rfl, rfl, rfl⟩ := trodAll_nil r0
  obtain rfl : args = #[v0] := by cases args; simp_all
  obtain ⟨rfl, rfl⟩ := trodVars_none hV
  have k0 := h0
  have lt0 : ∀ x ∈ p0, x.block < W.heap.size := by obtain ⟨m, hm⟩ := k0; exact DataW.trod_lt m _ _ _ hm
  obtain ⟨x0_0, x0_1, x0_2, x0_3, rfl, w0⟩ := (CodB.open_bytes Tryd.underlying22 Tryd.underlying5 (by kernel_rfl)) (hval 0 22 v0 rfl rfl) h0
  have hL : laidMet Tryd.prog Rows.fnRunnersRow.laid W := hL0
  have tb : Fmt.Tab W := Lib.tabIs_of_head gPow gPowType Tryd.underlying113 Tryd.underlying58 (by kernel_rfl) (by kernel_rfl) (hL.tail).tail
  obtain ⟨errR_a, errR_s, errR_v, _, _, _⟩ := laid_sentinel ((hL.tail).tail).tail (by kernel_rfl : Tryd.prog.globalNamed "strconv.ErrRange" = some 3) (by kernel_rfl) Tryd.underlying79 row_err Tryd.underlying125 Tryd.underlying127 rfl rfl Tryd.underlying9 (by kernel_rfl) (by kernel_rfl)
  obtain ⟨errS_a, errS_s, errS_v, _, _, _⟩ := laid_sentinel (((hL.tail).tail).tail).tail (by kernel_rfl : Tryd.prog.globalNamed "strconv.ErrSyntax" = some 2) (by kernel_rfl) Tryd.underlying79 row_err Tryd.underlying125 Tryd.underlying127 rfl rfl Tryd.underlying9 (by kernel_rfl) (by kernel_rfl)
  clear hA0 hval
  refine (RnrW.law_any W ⟨tb, ⟨_, _, errS_v⟩, ⟨_, _, errR_v⟩⟩ x0_0 x0_1 x0_2 x0_3 w0).mono fun e W' ⟨he, bel⟩ => ?_
  subst he
  exact ⟨_, rfl, _, _, _, [], _, [], hW', trodAll_mk1 (shut_bool Tryd.underlying4 _), (trodAll_cons_mk (Below.trod laidOut (by kernel_rfl) (of_decide_eq_true (by kernel_rfl)) k0 bel lt0) trodAll_mk0), rfl, bel.frame _, fun h => by cases h⟩

noncomputable def laidWorld (os : Os) : World :=
  let w0 := World.holding Tryd.prog os ⟨#[.cells #[.string ⟨#[118, 97, 108, 117, 101, 32, 111, 117, 116, 32, 111, 102, 32, 114, 97, 110, 103, 101]⟩] 127, .cells #[.string ⟨#[105, 110, 118, 97, 108, 105, 100, 32, 115, 121, 110, 116, 97, 120]⟩] 127], #[], []⟩
  let put (h : Array Obj) (g : Nat) (cs : Array Value) : Array Obj := h.modify g fun
    | .cells _ t frozen => .cells cs t frozen
    | o => o
  let t0 := put (w0.heap) 4 #[.int .u8 0, .int .u8 1, .int .u8 28, .int .u8 2, .int .u8 29, .int .u8 14, .int .u8 24, .int .u8 3, .int .u8 30, .int .u8 22, .int .u8 20, .int .u8 15, .int .u8 25, .int .u8 17, .int .u8 4, .int .u8 8, .int .u8 31, .int .u8 27, .int .u8 13, .int .u8 23, .int .u8 21, .int .u8 19, .int .u8 16, .int .u8 7, .int .u8 26, .int .u8 12, .int .u8 18, .int .u8 6, .int .u8 11, .int .u8 5, .int .u8 10, .int .u8 9]
  let t1 := put (t0) 5 #[.int .u8 0, .int .u8 1, .int .u8 56, .int .u8 2, .int .u8 57, .int .u8 49, .int .u8 28, .int .u8 3, .int .u8 61, .int .u8 58, .int .u8 42, .int .u8 50, .int .u8 38, .int .u8 29, .int .u8 17, .int .u8 4, .int .u8 62, .int .u8 47, .int .u8 59, .int .u8 36, .int .u8 45, .int .u8 43, .int .u8 51, .int .u8 22, .int .u8 53, .int .u8 39, .int .u8 33, .int .u8 30, .int .u8 24, .int .u8 18, .int .u8 12, .int .u8 5, .int .u8 63, .int .u8 55, .int .u8 48, .int .u8 27, .int .u8 60, .int .u8 41, .int .u8 37, .int .u8 16, .int .u8 46, .int .u8 35, .int .u8 44, .int .u8 21, .int .u8 52, .int .u8 32, .int .u8 23, .int .u8 11, .int .u8 54, .int .u8 26, .int .u8 40, .int .u8 15, .int .u8 34, .int .u8 20, .int .u8 31, .int .u8 10, .int .u8 25, .int .u8 14, .int .u8 19, .int .u8 9, .int .u8 13, .int .u8 8, .int .u8 7, .int .u8 6]
  let t2 := put (t1) 0 #[.int .u64 1, .int .u64 10, .int .u64 100, .int .u64 1000, .int .u64 10000, .int .u64 100000, .int .u64 1000000, .int .u64 10000000, .int .u64 100000000, .int .u64 1000000000, .int .u64 10000000000, .int .u64 100000000000, .int .u64 1000000000000, .int .u64 10000000000000, .int .u64 100000000000000, .int .u64 1000000000000000, .int .u64 10000000000000000, .int .u64 100000000000000000, .int .u64 1000000000000000000, .int .u64 10000000000000000000]
  let s0 := put (t2) 3 #[.iface 125 (.pointer (some ⟨(World.settled Tryd.prog os).heap.size + 0, 0, none⟩))]
  let s1 := put (s0) 2 #[.iface 125 (.pointer (some ⟨(World.settled Tryd.prog os).heap.size + 1, 0, none⟩))]
  { w0 with heap := s1 }
theorem laid_met (os : Os) : laidMet Tryd.prog Rows.fnRunnersRow.laid ((laidWorld os).forCall (fun _ _ => 0) ⟨#[], #[.slice none 0 0], []⟩).memory :=
  laidMet_of_run' 8 (by kernel_rfl) (by kernel_rfl)
theorem reads (os : Os) {H : Type} (enc : TypeId × Value → H) : ∃ places, DataW.whole enc Tryd.prog ((laidWorld os).forCall (fun _ _ => 0) ⟨#[], #[.slice none 0 0], []⟩).memory Tryd.f3.params.toList Rows.fnRunnersSpec.vars false (#[.slice none 0 0] : Array Value).toList 8 = some ([.nil], [], places) :=
  ⟨[], by kernel_rfl⟩

set_option maxRecDepth 100000 in
theorem lifted (os : Os) (started : os.Started) (H : Type) (enc : TypeId × Value → H) (F : Stop.Interp) :
    ReturnsInHanded {} Tryd.checked os 3 .any ((OpenSpec.ofChange Rows.fnRunnersSpec).preRow enc Tryd.prog Tryd.f3 Rows.fnRunnersRow.domain false Rows.fnRunnersRow.laid) (((OpenSpec.ofChange Rows.fnRunnersSpec).at F).post enc Tryd.prog Tryd.f3 false true false false) := by
  obtain ⟨places, hx⟩ := reads os enc
  refine returnsInHanded_of_row (C := Tryd.checked) (s := OpenSpec.ofChange Rows.fnRunnersSpec) own started (by kernel_rfl) Tryd.func3
    (witness_row_atRef (enc := enc) (C := Tryd.checked) false (laidWorld os) #[.slice none 0 0] rfl (by kernel_rfl) (by kernel_rfl) (by kernel_rfl)
      (OpenSpec.preRow_of_cond 8 hx (by kernel_rfl) (fun k hk => by cases hk) (by kernel_rfl) (laid_met os))) ?_
  intro W base args ds gs before hval hW _ _ _ hL hSh _
  exact contract H enc W base args ds gs before hval hW hL hSh

theorem said : Rows.FnRunnersSaid :=
  OpenClaim.holds_of_cond 3 Tryd.f3 rfl rfl rfl rfl rfl rfl rfl ⟨rfl, rfl, rfl, rfl, rfl⟩ rfl rfl rfl rfl rfl (by kernel_rfl) Tryd.func3 (by kernel_rfl)
    (of_decide_eq_true (by kernel_rfl)) (by unfold Func.isWrapper; first | (rw [if_pos (by decide +kernel)]; kernel_rfl) | (rw [if_neg (by decide +kernel)]; exact ⟨rfl, rfl⟩))
    (fun os started H enc _ F => by rw [OpenClaim.pre_eq_preRow]; exact lifted os started H enc F)

theorem plain (f : FuncId) (fn : Func) (hf : Tryd.pinned.checked.prog.funcNamed Rows.fnRunnersRow.func = some f) (hfn : Tryd.pinned.checked.prog.funcs[f]? = some fn) :
    true = Tryd.pinned.checked.prog.looks [] ∧ ∀ (j : Nat) t, fn.params[j]? = some t → Tryd.pinned.checked.prog.wantsStandIn t = false := by
  obtain rfl : f = 3 := Option.some.inj ((show Tryd.prog.funcNamed Rows.fnRunnersRow.func = some 3 by kernel_rfl).symm.trans hf) |>.symm
  obtain rfl : fn = Tryd.f3 := (Option.some.inj (Tryd.func3.symm.trans hfn)).symm
  refine ⟨by kernel_rfl, fun j t ht => ?_⟩
  rw [Tryd.params3] at ht
  have hm := Array.mem_of_getElem? ht
  simp only [List.mem_toArray, List.mem_cons, List.not_mem_nil, or_false] at hm
  subst hm
  exact (show Tryd.prog.wantsStandIn 22 = false by kernel_rfl)

theorem card : Rows.FnRunnersCardSaid :=
  Claim7.holds_tied_plain_at .later [] _ _ _ _ said (fun _ h => by cases h) (by kernel_rfl) (fun _ h => by cases h) fnRunners_row_tie rfl ⟨rfl, rfl⟩ (by kernel_rfl) rfl plain (by kernel_rfl)
end Go.Proofs.YtjngnjokbnklfaaDoor.fnRunnersFr
