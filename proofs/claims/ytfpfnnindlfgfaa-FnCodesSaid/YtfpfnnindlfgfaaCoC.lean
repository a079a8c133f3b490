/- CellOfCode and CodeAt: both texts. -/
import Derived.Test.YtfpfnnindlfgfaaCoA
import Derived.Test.YtfpfnnindlfgfaaCoG
import Derived.Test.YtfpfnnindlfgfaaCoF
namespace Go.Proofs.Ytfpfnnindlfgfaa.CoC
open Go.RowKit Lb IntS CtK CoM CoP CoF
open OpnI (opB opB_iff opB_of)
set_option linter.unusedSimpArgs false
set_option linter.unusedVariables false

/-- The standing facts of a map and a list that are read. -/
structure Rd (m : Mp) (cs : List Ct) (a b ad : Option Addr) (w : World) : Prop where
  r : IRow w a m.R
  c : IRow w b m.C
  l : Row w ad cs
theorem Rd.later {m : Mp} {cs : List Ct} {a b ad : Option Addr} {w w' : World} (h : Rd m cs a b ad w) (hb : Below w.heap.size w w') : Rd m cs a b ad w' := ⟨RowAt.below h.r hb, RowAt.below h.c hb, h.l.later hb⟩
theorem Rd.drew {m : Mp} {cs : List Ct} {a b ad : Option Addr} {w : World} (h : Rd m cs a b ad w) : Rd m cs a b ad w.drew := ⟨h.r, h.c, h.l⟩

theorem impl_good (m : Mp) (cs : List Ct) (hl : cs.length ≤ 1048576) (hR : m.R.length ≤ maxLen) (hC : m.C.length ≤ maxLen) (a b : Option Addr) (ca cb : Nat) (ad : Option Addr) (cap : Nat) (w : World) (h : Rd m cs a b ad w) :
    Calls Try.prog 36 #[.agg #[.int .i64 m.W, .int .i64 m.H, .slice a m.R.length ca, .slice b m.C.length cb], .slice ad cs.length cap] w fun e w' => e = .returned (.bool (goodB m cs)) ∧ Below w.heap.size w w' :=
  CoA.impl_any m cs (by unfold maxLen; omega) hR hC a b ca cb ad cap w h.r h.c h.l
theorem spec_good (m : Mp) (cs : List Ct) (hl : cs.length ≤ 1048576) (hR : m.R.length ≤ maxLen) (hC : m.C.length ≤ maxLen) (a b : Option Addr) (ca cb : Nat) (ad : Option Addr) (cap : Nat) (w : World) (h : Rd m cs a b ad w) :
    Calls Try.prog 98 #[.agg #[.int .i64 m.W, .int .i64 m.H, .slice a m.R.length ca, .slice b m.C.length cb], .slice ad cs.length cap] w fun e w' => e = .returned (.bool (goodB m cs)) ∧ Below w.heap.size w w' :=
  CoG.good_any m cs (by unfold maxLen; omega) hR hC a b ca cb ad cap w h.r h.c h.l

/-- AreControls: both. -/
theorem are (m : Mp) (hR : m.R.length ≤ maxLen) (hC : m.C.length ≤ maxLen) (cs : List Ct) (hf : ∀ i, i < cs.length → Is (at_ cs i)) (hl : cs.length ≤ 1048576) : ∃ ok : Bool,
    (∀ a b ca cb ad cap w, IRow w a m.R → IRow w b m.C → cs.length ≤ cap → Row w ad cs → Calls Try.prog 37 #[.agg #[.int .i64 m.W, .int .i64 m.H, .slice a m.R.length ca, .slice b m.C.length cb], .slice ad cs.length cap] w fun e w' => e = .returned (.bool ok) ∧ Below w.heap.size w w') ∧
    (∀ a b ca cb ad cap w, IRow w a m.R → IRow w b m.C → cs.length ≤ cap → Row w ad cs → Calls Try.prog 36 #[.agg #[.int .i64 m.W, .int .i64 m.H, .slice a m.R.length ca, .slice b m.C.length cb], .slice ad cs.length cap] w fun e w' => e = .returned (.bool ok) ∧ Below w.heap.size w w') := by
  refine ⟨goodB m cs, fun a b ca cb ad cap w h1 h2 _ h3 => ?_, fun a b ca cb ad cap w h1 h2 _ h3 => impl_good m cs hl hR hC a b ca cb ad cap w ⟨h1, h2, h3⟩⟩
  have HB := Lib.hid ((Below.refl w.heap.size w).alloc (Nat.le_refl _) (.cells #[.int .i64 m.W, .int .i64 m.H, .slice a m.R.length ca, .slice b m.C.length cb] 26))
  have c1 := Lib.hid (spec_good m cs hl hR hC a b ca cb ad cap _ ((Rd.mk h1 h2 h3).later HB.out))
  clear h1 h2 h3
  go_enter Try.func37, Try.ntmps37
  go_wp2_with fail
  refine c1.out.mono ?_
  rintro e w1 ⟨rfl, hb⟩
  have HB1 := Lib.hid (HB.out.trans (hb.mono (by simp)))
  clear hb
  go_wp2
  go_ret
  exact ⟨rfl, HB1.out⟩

/-- What CellOfCode answers. -/
def ccB (m : Mp) (cs : List Ct) (x : Int) : Bool := goodB m cs && decide (0 ≤ fiZ cs x)
def ccZ (m : Mp) (cs : List Ct) (x : Int) : Int := if ccB m cs x then (at_ cs (fiZ cs x).toNat).ce else 0
def ZPost (w : World) (z : Int) (ok : Bool) (e : Ending) (w' : World) : Prop := e = .returned (.tuple #[.int .i64 z, .bool ok]) ∧ Below w.heap.size w w'

set_option maxHeartbeats 2000000 in
theorem cell_impl (m : Mp) (cs : List Ct) (hl : cs.length ≤ 1048576) (hR : m.R.length ≤ maxLen) (hC : m.C.length ≤ maxLen) (x : Int) (a b : Option Addr) (ca cb : Nat) (ad : Option Addr) (cap : Nat) (w : World) (h : Rd m cs a b ad w) :
    Calls Try.prog 38 #[.agg #[.int .i64 m.W, .int .i64 m.H, .slice a m.R.length ca, .slice b m.C.length cb], .slice ad cs.length cap, .int .i64 x] w (ZPost w (ccZ m cs x) (ccB m cs x)) := by
  have HB := Lib.hid ((Below.refl w.heap.size w).alloc (Nat.le_refl _) (.cells #[.int .i64 m.W, .int .i64 m.H, .slice a m.R.length ca, .slice b m.C.length cb] 26))
  have HR := Lib.hid h
  obtain ⟨g, hg⟩ : ∃ g, goodB m cs = g := ⟨_, rfl⟩
  have c1 := Lib.hid (fun w h => hg ▸ impl_good m cs hl hR hC a b ca cb ad cap w h)
  have HG := Lib.hid hg
  obtain ⟨ok, hok⟩ : ∃ o, ccB m cs x = o := ⟨_, rfl⟩
  obtain ⟨z, hz⟩ : ∃ z, ccZ m cs x = z := ⟨_, rfl⟩
  have HO := Lib.hid hok
  have HZ := Lib.hid hz
  rw [hok, hz]
  clear h hg hok hz
  go_enter Try.func38, Try.ntmps38
  go_wp2_with fail
  refine (c1.out _ (HR.out.later HB.out)).mono ?_
  rintro e w1 ⟨rfl, hb⟩
  have HB1 := Lib.hid (HB.out.trans (hb.mono (by simp)))
  clear hb HB
  cases g with
  | false =>
    have h1 : ok = false := by rw [← HO.out]; unfold ccB; rw [HG.out]; rfl
    have h2 : z = 0 := by rw [← HZ.out]; unfold ccZ; rw [HO.out, h1]; rfl
    subst h1 h2
    go_wp2
    go_ret2
    exact ⟨rfl, HB1.out⟩
  | true =>
    obtain ⟨k, hk⟩ := asc_plc (good_asc HG.out) x
    have c2 := Lib.hid (fun w h => place_any cs hl (good_asc HG.out) x k hk ad cap w h)
    have hfi := fi_plc hk
    obtain ⟨f, hf⟩ : ∃ f, fndB cs x k = f := ⟨_, rfl⟩
    rw [hf] at c2 hfi
    have hkn : f = true → k < cs.length := fun e => by rw [e] at hf; exact (of_decide_eq_true hf).1
    have hc10 := good_len HG.out
    have hA := Lib.hid (good_asc HG.out)
    clear hk hf
    go_wp2_with fail
    refine (c2.out _ (HR.out.later HB1.out).l).mono ?_
    rintro e w2 ⟨rfl, hb⟩
    have HB2 := Lib.hid (HB1.out.trans (hb.mono HB1.out.size))
    clear hb
    cases f with
    | false =>
      have h1 : ok = false := by rw [← HO.out]; unfold ccB; rw [HG.out, hfi.2 rfl hA.out]; rfl
      have h2 : z = 0 := by rw [← HZ.out]; unfold ccZ; rw [HO.out, h1]; rfl
      subst h1 h2
      clear hfi
      go_wp2
      go_ret2
      exact ⟨rfl, HB2.out⟩
    | true =>
      have hkl := hkn rfl
      have h1 : ok = true := by rw [← HO.out]; unfold ccB; rw [HG.out, hfi.1 rfl]; simp
      have h2 : (at_ cs k).ce = z := by rw [← HZ.out]; unfold ccZ; rw [HO.out, h1, hfi.1 rfl]; rfl
      obtain ⟨b1, off, rfl, c0, d0⟩ := (HR.out.later HB2.out).l.cells hkl
      rw [h2] at d0
      subst h1
      clear h2 hfi hkn
      have hk0 : (0 : Int) ≤ (k : Int) := by omega
      have hk1 : (k : Int) < (cs.length : Int) := by omega
      go_wp2
      go_ret2
      exact ⟨rfl, HB2.out⟩

set_option maxHeartbeats 2000000 in
theorem cell_spec (m : Mp) (cs : List Ct) (hl : cs.length ≤ 1048576) (hR : m.R.length ≤ maxLen) (hC : m.C.length ≤ maxLen) (x : Int) (a b : Option Addr) (ca cb : Nat) (ad : Option Addr) (cap : Nat) (w : World) (h : Rd m cs a b ad w) :
    Calls Try.prog 44 #[.agg #[.int .i64 m.W, .int .i64 m.H, .slice a m.R.length ca, .slice b m.C.length cb], .slice ad cs.length cap, .int .i64 x] w (ZPost w (ccZ m cs x) (ccB m cs x)) := by
  have HB := Lib.hid ((Below.refl w.heap.size w).alloc (Nat.le_refl _) (.cells #[.int .i64 m.W, .int .i64 m.H, .slice a m.R.length ca, .slice b m.C.length cb] 26))
  have HR := Lib.hid h
  obtain ⟨g, hg⟩ : ∃ g, goodB m cs = g := ⟨_, rfl⟩
  have c1 := Lib.hid (fun w h => hg ▸ spec_good m cs hl hR hC a b ca cb ad cap w h)
  have HG := Lib.hid hg
  obtain ⟨ok, hok⟩ : ∃ o, ccB m cs x = o := ⟨_, rfl⟩
  obtain ⟨z, hz⟩ : ∃ z, ccZ m cs x = z := ⟨_, rfl⟩
  have HO := Lib.hid hok
  have HZ := Lib.hid hz
  rw [hok, hz]
  clear h hg hok hz
  go_enter Try.func44, Try.ntmps44
  go_wp2_with fail
  refine (c1.out _ (HR.out.later HB.out)).mono ?_
  rintro e w1 ⟨rfl, hb⟩
  have HB1 := Lib.hid (HB.out.trans (hb.mono (by simp)))
  clear hb HB
  cases g with
  | false =>
    have h1 : ok = false := by rw [← HO.out]; unfold ccB; rw [HG.out]; rfl
    have h2 : z = 0 := by rw [← HZ.out]; unfold ccZ; rw [HO.out, h1]; rfl
    subst h1 h2
    go_wp2
    go_ret2
    exact ⟨rfl, HB1.out⟩
  | true =>
    have c2 := Lib.hid (fun w h => find_any cs hl x ad cap w h)
    rcases fi_cases cs x with hfi | ⟨k, hfi, hkl, hce⟩
    · rw [hfi] at c2
      have h1 : ok = false := by rw [← HO.out]; unfold ccB; rw [HG.out, hfi]; rfl
      have h2 : z = 0 := by rw [← HZ.out]; unfold ccZ; rw [HO.out, h1]; rfl
      subst h1 h2
      clear hfi
      go_wp2_with fail
      refine (c2.out _ (HR.out.later HB1.out).l).mono ?_
      rintro e w2 ⟨rfl, rfl⟩
      go_wp2
      go_ret2
      exact ⟨rfl, HB1.out⟩
    · rw [hfi] at c2
      have h1 : ok = true := by rw [← HO.out]; unfold ccB; rw [HG.out, hfi]; simp
      have h2 : (at_ cs k).ce = z := by rw [← HZ.out]; unfold ccZ; rw [HO.out, h1, hfi]; rfl
      obtain ⟨b1, off, rfl, c0, d0⟩ := (HR.out.later HB1.out).l.cells hkl
      rw [h2] at d0
      subst h1
      have hd : decide ((k : Int) < 0) = false := decide_eq_false (by omega)
      have hk0 : (0 : Int) ≤ (k : Int) := by omega
      have hk1 : (k : Int) < (cs.length : Int) := by omega
      clear h2 hfi hce
      go_wp2_with fail
      refine (c2.out _ (HR.out.later HB1.out).l).mono ?_
      rintro e w2 ⟨rfl, rfl⟩
      go_wp2_with fail
      refine (c2.out _ (HR.out.later HB1.out).l).mono ?_
      rintro e w2 ⟨rfl, rfl⟩
      go_wp2
      go_ret2
      exact ⟨rfl, HB1.out⟩

/-- CellOfCode: both. -/
theorem cell (m : Mp) (hR : m.R.length ≤ maxLen) (hC : m.C.length ≤ maxLen) (cs : List Ct) (hf : ∀ i, i < cs.length → Is (at_ cs i)) (hl : cs.length ≤ 1048576) (x : Int) (hx : (Lit.int IntKind.i64 x).wf = true) : ∃ (z : Int) (ok : Bool),
    (∀ a b ca cb ad cap w, IRow w a m.R → IRow w b m.C → cs.length ≤ cap → Row w ad cs → Calls Try.prog 44 #[.agg #[.int .i64 m.W, .int .i64 m.H, .slice a m.R.length ca, .slice b m.C.length cb], .slice ad cs.length cap, .int .i64 x] w fun e w' => e = .returned (.tuple #[.int .i64 z, .bool ok]) ∧ Below w.heap.size w w') ∧
    (∀ a b ca cb ad cap w, IRow w a m.R → IRow w b m.C → cs.length ≤ cap → Row w ad cs → Calls Try.prog 38 #[.agg #[.int .i64 m.W, .int .i64 m.H, .slice a m.R.length ca, .slice b m.C.length cb], .slice ad cs.length cap, .int .i64 x] w fun e w' => e = .returned (.tuple #[.int .i64 z, .bool ok]) ∧ Below w.heap.size w w') :=
  ⟨_, _, fun a b ca cb ad cap w h1 h2 _ h3 => cell_spec m cs hl hR hC x a b ca cb ad cap w ⟨h1, h2, h3⟩, fun a b ca cb ad cap w h1 h2 _ h3 => cell_impl m cs hl hR hC x a b ca cb ad cap w ⟨h1, h2, h3⟩⟩

/-- Where a cell stands first. -/
def fcI (cs : List Ct) (c : Int) : Nat := cs.findIdx (fun r => r.ce == c)
theorem fc_at {cs : List Ct} {c : Int} {k : Nat} (hk : k < cs.length) (h : ∀ j, j < k → (at_ cs j).ce ≠ c) (h1 : (at_ cs k).ce = c) : fcI cs c = k := by
  unfold fcI
  rw [List.findIdx_eq hk]
  refine ⟨by rw [← at_lt hk]; simpa using h1, fun j hj => ?_⟩
  have := h j hj
  rw [at_lt (by omega)] at this
  simpa using this
theorem fc_no {cs : List Ct} {c : Int} (h : ∀ j, j < cs.length → (at_ cs j).ce ≠ c) : ¬ fcI cs c < cs.length := by
  intro hk
  have := List.findIdx_getElem (w := hk)
  have h2 := h _ hk
  rw [at_lt hk] at h2
  simp at this
  exact h2 this
/-- What CodeAt answers. -/
def caB (m : Mp) (cs : List Ct) (c : Int) : Bool := goodB m cs && decide (fcI cs c < cs.length)
def caZ (m : Mp) (cs : List Ct) (c : Int) : Int := if caB m cs c then (at_ cs (fcI cs c)).co else 0
theorem ca_bad {m : Mp} {cs : List Ct} {c : Int} (h : goodB m cs = false) : caB m cs c = false ∧ caZ m cs c = 0 := by
  have : caB m cs c = false := by unfold caB; rw [h]; rfl
  exact ⟨this, by unfold caZ; rw [this]; rfl⟩
theorem ca_no {m : Mp} {cs : List Ct} {c : Int} (h : ∀ j, j < cs.length → (at_ cs j).ce ≠ c) : caB m cs c = false ∧ caZ m cs c = 0 := by
  have : caB m cs c = false := by unfold caB; rw [decide_eq_false (fc_no h), Bool.and_false]
  exact ⟨this, by unfold caZ; rw [this]; rfl⟩
theorem ca_at {m : Mp} {cs : List Ct} {c : Int} {k : Nat} (hg : goodB m cs = true) (hk : k < cs.length) (h : ∀ j, j < k → (at_ cs j).ce ≠ c) (h1 : (at_ cs k).ce = c) : caB m cs c = true ∧ caZ m cs c = (at_ cs k).co := by
  have : caB m cs c = true := by unfold caB; rw [hg, fc_at hk h h1]; simpa using hk
  exact ⟨this, by unfold caZ; rw [this, fc_at hk h h1]; rfl⟩

set_option maxHeartbeats 2000000 in
theorem code_impl (m : Mp) (cs : List Ct) (hl : cs.length ≤ 1048576) (hR : m.R.length ≤ maxLen) (hC : m.C.length ≤ maxLen) (x : Int) (a b : Option Addr) (ca cb : Nat) (ad : Option Addr) (cap : Nat) (w : World) (h : Rd m cs a b ad w) :
    Calls Try.prog 39 #[.agg #[.int .i64 m.W, .int .i64 m.H, .slice a m.R.length ca, .slice b m.C.length cb], .slice ad cs.length cap, .int .i64 x] w (ZPost w (caZ m cs x) (caB m cs x)) := by
  have HB := Lib.hid ((Below.refl w.heap.size w).alloc (Nat.le_refl _) (.cells #[.int .i64 m.W, .int .i64 m.H, .slice a m.R.length ca, .slice b m.C.length cb] 26))
  have HR := Lib.hid h
  obtain ⟨g, hg⟩ : ∃ g, goodB m cs = g := ⟨_, rfl⟩
  have c1 := Lib.hid (fun w h => hg ▸ impl_good m cs hl hR hC a b ca cb ad cap w h)
  have HG := Lib.hid hg
  obtain ⟨ok, hok⟩ : ∃ o, caB m cs x = o := ⟨_, rfl⟩
  obtain ⟨z, hz⟩ : ∃ z, caZ m cs x = z := ⟨_, rfl⟩
  have HO := Lib.hid hok
  have HZ := Lib.hid hz
  rw [hok, hz]
  obtain ⟨n, hn⟩ : ∃ n, cs.length = n := ⟨_, rfl⟩
  have HN := Lib.hid hn
  rw [hn] at hl c1 ⊢
  clear h hg hok hz hn
  go_enter Try.func39, Try.ntmps39
  go_wp2_with fail
  refine (c1.out _ (HR.out.later HB.out)).mono ?_
  rintro e w1 ⟨rfl, hb⟩
  have HB1 := Lib.hid (HB.out.trans (hb.mono (by simp)))
  clear hb HB
  cases g with
  | false =>
    obtain ⟨h1, h2⟩ := ca_bad (c := x) HG.out
    rw [HO.out] at h1
    rw [HZ.out] at h2
    subst h1 h2
    go_wp2
    go_ret2
    exact ⟨rfl, HB1.out⟩
  | true =>
    go_wp2
    go_loopw [16] (fun i wr => ∃ k : Nat, k ≤ n ∧ i = .int .i64 k ∧ (∀ j, j < k → (at_ cs j).ce ≠ x) ∧ Below w.heap.size w wr) (fun i _ => n - (intOf i).toNat)
    case atStart => exact ⟨0, Nat.zero_le _, rfl, (fun j hj => absurd hj (Nat.not_lt_zero _)), HB1.out⟩
    case round =>
      clear HB1
      obtain ⟨k, hk, rfl, hall, hB⟩ := hrel
      have HA := Lib.hid hall
      have HB := Lib.hid hB
      clear hall hB
      by_cases hlt : k < n
      · obtain ⟨b1, off, rfl, c0, d0⟩ := (HR.out.later HB.out).l.cells (i := k) (by rw [HN.out]; exact hlt)
        obtain ⟨y, hy⟩ : ∃ y, at_ cs k = y := ⟨_, rfl⟩
        rw [hy] at c0 d0
        have HY := Lib.hid hy
        clear hy
        have HB2 := Lib.hid (HB.out.alloc HB.out.size (.cells #[.int .i64 y.co, .int .i64 y.ce] 58))
        by_cases hq : y.ce = x
        · obtain ⟨h1, h2⟩ := ca_at HG.out (by rw [HN.out]; exact hlt) HA.out (by rw [HY.out]; exact hq)
          rw [HO.out] at h1
          rw [HZ.out, HY.out] at h2
          have hd : (y.ce == x) = true := by simpa using hq
          subst h1 h2
          clear hq
          go_wp2
          go_ret2
          exact ⟨rfl, HB2.out⟩
        · have hp := Lib.hid (show (at_ cs k).ce ≠ x from by rw [HY.out]; exact hq)
          have hd : (y.ce == x) = false := by simpa using hq
          clear hq
          go_wp2
          go_roundw
          case rel => exact ⟨k + 1, by omega, by go_num, all_succ (p := fun j => (at_ cs j).ce ≠ x) HA.out hp.out, HB2.out⟩
          case measure => simp [intOf]; omega
      · obtain rfl : k = n := by omega
        obtain ⟨h1, h2⟩ := ca_no (m := m) (cs := cs) (c := x) (by rw [HN.out]; exact HA.out)
        rw [HO.out] at h1
        rw [HZ.out] at h2
        subst h1 h2
        go_wp2
        go_ret2
        exact ⟨rfl, HB.out⟩

set_option maxHeartbeats 2000000 in
theorem code_spec (m : Mp) (cs : List Ct) (hl : cs.length ≤ 1048576) (hR : m.R.length ≤ maxLen) (hC : m.C.length ≤ maxLen) (x : Int) (a b : Option Addr) (ca cb : Nat) (ad : Option Addr) (cap : Nat) (w : World) (h : Rd m cs a b ad w) :
    Calls Try.prog 46 #[.agg #[.int .i64 m.W, .int .i64 m.H, .slice a m.R.length ca, .slice b m.C.length cb], .slice ad cs.length cap, .int .i64 x] w (ZPost w (caZ m cs x) (caB m cs x)) := by
  have HB := Lib.hid ((Below.refl w.heap.size w).alloc (Nat.le_refl _) (.cells #[.int .i64 m.W, .int .i64 m.H, .slice a m.R.length ca, .slice b m.C.length cb] 26))
  have HK := Lib.hid (MapS.Blk.new w 26 #[.int .i64 m.W, .int .i64 m.H, .slice a m.R.length ca, .slice b m.C.length cb])
  have HR := Lib.hid h
  obtain ⟨g, hg⟩ : ∃ g, goodB m cs = g := ⟨_, rfl⟩
  have c1 := Lib.hid (fun w h => hg ▸ spec_good m cs hl hR hC a b ca cb ad cap w h)
  have HG := Lib.hid hg
  obtain ⟨ok, hok⟩ : ∃ o, caB m cs x = o := ⟨_, rfl⟩
  obtain ⟨z, hz⟩ : ∃ z, caZ m cs x = z := ⟨_, rfl⟩
  have HO := Lib.hid hok
  have HZ := Lib.hid hz
  rw [hok, hz]
  obtain ⟨n, hn⟩ : ∃ n, cs.length = n := ⟨_, rfl⟩
  have HN := Lib.hid hn
  rw [hn] at hl c1 ⊢
  clear h hg hok hz hn
  go_enter Try.func46, Try.ntmps46
  go_wp2_with fail
  refine (c1.out _ (HR.out.later HB.out)).mono ?_
  rintro e w1 ⟨rfl, hb⟩
  have HB1 := Lib.hid (HB.out.trans (hb.mono (by simp)))
  have HK1 := Lib.hid (HK.out.later hb)
  clear hb HB HK
  cases g with
  | false =>
    obtain ⟨h1, h2⟩ := ca_bad (c := x) HG.out
    rw [HO.out] at h1
    rw [HZ.out] at h2
    subst h1 h2
    go_wp2
    go_ret2
    exact ⟨rfl, HB1.out⟩
  | true =>
    obtain ⟨ww, hh, gm⟩ := good_of (good_ok HG.out)
    have c2 := Lib.hid (fun w => Cells.scell m ww hh gm a b ca cb x w)
    obtain ⟨ic, hic⟩ : ∃ i, decide (0 ≤ x ∧ x < (ww * hh : Nat)) = i := ⟨_, rfl⟩
    rw [hic] at c2
    have HIc := Lib.hid hic
    have HGm := Lib.hid gm
    obtain ⟨p0, p1, p2, p3, -⟩ := HK1.out.four
    clear gm hic
    go_wp2_with fail
    refine (c2.out _).mono ?_
    rintro e w2 ⟨rfl, hb⟩
    have HB2 := Lib.hid (HB1.out.trans (hb.mono HB1.out.size))
    clear hb p0 p1 p2 p3
    cases ic with
    | false =>
      obtain ⟨h1, h2⟩ := ca_no (m := m) (cs := cs) (c := x) (fun j hj e => by
        obtain ⟨q, hq, h3⟩ := opB_of HGm.out (good_open HG.out hj)
        rw [e] at hq
        have := of_decide_eq_false HIc.out
        have := h3.1
        omega)
      rw [HO.out] at h1
      rw [HZ.out] at h2
      subst h1 h2
      go_wp2
      go_ret2
      exact ⟨rfl, HB2.out⟩
    | true =>
    go_wp2
    go_loopw [8] (fun i wr => ∃ k : Nat, k ≤ n ∧ i = .int .i64 k ∧ (∀ j, j < k → (at_ cs j).ce ≠ x) ∧ Below w.heap.size w wr) (fun i _ => n - (intOf i).toNat)
    case atStart => exact ⟨0, Nat.zero_le _, rfl, (fun j hj => absurd hj (Nat.not_lt_zero _)), HB2.out⟩
    case round =>
      clear HB1 HB2
      obtain ⟨k, hk, rfl, hall, hB⟩ := hrel
      have HA := Lib.hid hall
      have HB := Lib.hid hB
      clear hall hB
      by_cases hlt : k < n
      · obtain ⟨b1, off, rfl, c0, d0⟩ := (HR.out.later HB.out).l.cells (i := k) (by rw [HN.out]; exact hlt)
        obtain ⟨y, hy⟩ : ∃ y, at_ cs k = y := ⟨_, rfl⟩
        rw [hy] at c0 d0
        have HY := Lib.hid hy
        clear hy
        by_cases hq : y.ce = x
        · obtain ⟨h1, h2⟩ := ca_at HG.out (by rw [HN.out]; exact hlt) HA.out (by rw [HY.out]; exact hq)
          rw [HO.out] at h1
          rw [HZ.out, HY.out] at h2
          have hd : (y.ce == x) = true := by simpa using hq
          subst h1 h2
          clear hq
          go_wp2
          go_ret2
          exact ⟨rfl, HB.out⟩
        · have hp := Lib.hid (show (at_ cs k).ce ≠ x from by rw [HY.out]; exact hq)
          have hd : (y.ce == x) = false := by simpa using hq
          clear hq
          go_wp2
          go_roundw
          case rel => exact ⟨k + 1, by omega, by go_num, all_succ (p := fun j => (at_ cs j).ce ≠ x) HA.out hp.out, HB.out⟩
          case measure => simp [intOf]; omega
      · obtain rfl : k = n := by omega
        obtain ⟨h1, h2⟩ := ca_no (m := m) (cs := cs) (c := x) (by rw [HN.out]; exact HA.out)
        rw [HO.out] at h1
        rw [HZ.out] at h2
        subst h1 h2
        go_wp2
        go_ret2
        exact ⟨rfl, HB.out⟩

/-- CodeAt: both. -/
theorem code (m : Mp) (hR : m.R.length ≤ maxLen) (hC : m.C.length ≤ maxLen) (cs : List Ct) (hf : ∀ i, i < cs.length → Is (at_ cs i)) (hl : cs.length ≤ 1048576) (x : Int) (hx : (Lit.int IntKind.i64 x).wf = true) : ∃ (z : Int) (ok : Bool),
    (∀ a b ca cb ad cap w, IRow w a m.R → IRow w b m.C → cs.length ≤ cap → Row w ad cs → Calls Try.prog 46 #[.agg #[.int .i64 m.W, .int .i64 m.H, .slice a m.R.length ca, .slice b m.C.length cb], .slice ad cs.length cap, .int .i64 x] w fun e w' => e = .returned (.tuple #[.int .i64 z, .bool ok]) ∧ Below w.heap.size w w') ∧
    (∀ a b ca cb ad cap w, IRow w a m.R → IRow w b m.C → cs.length ≤ cap → Row w ad cs → Calls Try.prog 39 #[.agg #[.int .i64 m.W, .int .i64 m.H, .slice a m.R.length ca, .slice b m.C.length cb], .slice ad cs.length cap, .int .i64 x] w fun e w' => e = .returned (.tuple #[.int .i64 z, .bool ok]) ∧ Below w.heap.size w w') :=
  ⟨_, _, fun a b ca cb ad cap w h1 h2 _ h3 => code_spec m cs hl hR hC x a b ca cb ad cap w ⟨h1, h2, h3⟩, fun a b ca cb ad cap w h1 h2 _ h3 => code_impl m cs hl hR hC x a b ca cb ad cap w ⟨h1, h2, h3⟩⟩

end Go.Proofs.Ytfpfnnindlfgfaa.CoC
