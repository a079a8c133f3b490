/- CellsNextTo: the model and the program. -/
import Derived.Test.YtdphliobjafjaaaNextS
namespace Go.Proofs.Ytdphliobjafjaaa.Cells
open Go.RowKit Lb IntS MapS MapV High
open Go.Proofs.Ytdphliobjafjaaa.Next (below_drewN bAD impl_raw)
open Go.Proofs.Ytdphliobjafjaaa.NextS (spec_raw)
set_option linter.unusedSimpArgs false
set_option linter.unusedVariables false

theorem mp_eq {m : Mp} {ww hh : Nat} (g : GoodM m ww hh) : m = ⟨ww, hh, m.R, m.C⟩ := by
  have h1 := g.W
  have h2 := g.H
  cases m
  simp only at h1 h2
  subst h1 h2
  rfl

/-- The contract of the program's search, at a map. -/
theorem impl_next (m : Mp) (ww hh : Nat) (g : GoodM m ww hh) (a b : Option Addr) (ca cb : Nat) (c : Nat) (w : World) (hc : IRow w b m.C) (hl : c < ww * hh) :
    Calls Try.prog 72 #[.agg #[.int .i64 m.W, .int .i64 m.H, .slice a m.R.length ca, .slice b m.C.length cb], .int .i64 c] w fun e w' => (∃ v, e = .returned v ∧ OwnI w' w.heap.size v (ints (nx m c))) ∧ Below w.heap.size w w' := by
  have e := mp_eq g
  obtain ⟨W, H, R, C⟩ := m
  cases e
  have h := impl_raw ww hh R C a b ca cb c w g hc hl
  rw [nxTo_all g] at h
  exact h
theorem spec_next (m : Mp) (ww hh : Nat) (g : GoodM m ww hh) (a b : Option Addr) (ca cb : Nat) (c : Nat) (w : World) (hc : IRow w b m.C) (hl : c < ww * hh) :
    Calls Try.prog 74 #[.agg #[.int .i64 m.W, .int .i64 m.H, .slice a m.R.length ca, .slice b m.C.length cb], .int .i64 c] w fun e w' => (∃ v, e = .returned v ∧ OwnI w' w.heap.size v (ints (nx m c))) ∧ Below w.heap.size w w' := by
  have e := mp_eq g
  obtain ⟨W, H, R, C⟩ := m
  cases e
  exact spec_raw ww hh R C a b ca cb c w g hc hl

theorem cell_yes (m : Mp) (a b : Option Addr) (ca cb : Nat) (c : Nat) (w : World) (hl : c < m.C.length) (hm : m.C.length ≤ maxLen) :
    Calls Try.prog 71 #[.agg #[.int .i64 m.W, .int .i64 m.H, .slice a m.R.length ca, .slice b m.C.length cb], .int .i64 c] w fun e w' => e = .returned (.bool true) ∧ Below w.heap.size w w' := by
  unfold maxLen at hm
  go_enter Try.func71, Try.ntmps71
  go_wp2
  go_ret
  exact ⟨rfl, (Below.refl _ _).alloc (Nat.le_refl _) _⟩
theorem cell_no (m : Mp) (a b : Option Addr) (ca cb : Nat) (c : Int) (w : World) (hl : c < 0 ∨ (m.C.length : Int) ≤ c) (hm : m.C.length ≤ maxLen) :
    Calls Try.prog 71 #[.agg #[.int .i64 m.W, .int .i64 m.H, .slice a m.R.length ca, .slice b m.C.length cb], .int .i64 c] w fun e w' => e = .returned (.bool false) ∧ Below w.heap.size w w' := by
  unfold maxLen at hm
  by_cases h0 : c < 0
  · have h1 : decide (0 ≤ c) = false := by simpa using h0
    go_enter Try.func71, Try.ntmps71
    go_wp2
    go_ret
    exact ⟨rfl, (Below.refl _ _).alloc (Nat.le_refl _) _⟩
  · have h1 : decide (0 ≤ c) = true := by simpa using h0
    have h2 : decide (c < (m.C.length : Int)) = false := by simp; omega
    clear hl h0
    go_enter Try.func71, Try.ntmps71
    go_wp2
    go_ret
    exact ⟨rfl, (Below.refl _ _).alloc (Nat.le_refl _) _⟩

theorem scell (m : Mp) (ww hh : Nat) (g : GoodM m ww hh) (a b : Option Addr) (ca cb : Nat) (c : Int) (w : World) :
    Calls Try.prog 73 #[.agg #[.int .i64 m.W, .int .i64 m.H, .slice a m.R.length ca, .slice b m.C.length cb], .int .i64 c] w fun e w' => e = .returned (.bool (decide (0 ≤ c ∧ c < (ww * hh : Nat)))) ∧ Below w.heap.size w w' := by
  have e := mp_eq g
  obtain ⟨W, H, R, C⟩ := m
  cases e
  have w1 := g.w1
  have w6 := g.w6
  have h1 := g.h1
  have h6 := g.h6
  have n1 := g.n1
  have n36 := g.n36
  have hm : (ww : Int) * (hh : Int) = ((ww * hh : Nat) : Int) := by rw [Int.natCast_mul]
  have hm1 : 1 ≤ (ww : Int) * (hh : Int) := by omega
  have hm2 : (ww : Int) * (hh : Int) ≤ 36 := by omega
  clear g
  by_cases hin : 0 ≤ c ∧ c < ((ww * hh : Nat) : Int)
  · have H1 := Lib.hid hin.1
    have H2 := Lib.hid (show c ≤ (ww : Int) * (hh : Int) - 1 by omega)
    have H3 := Lib.hid (decide_eq_true hin)
    clear hin hm
    go_enter Try.func73, Try.ntmps73
    go_wp2_with fail
    refine (in_yes _ _ _ _ H1.out H2.out).mono ?_
    rintro e w' ⟨rfl, rfl⟩
    go_wp2
    go_ret
    exact ⟨ret_bool H3.out.symm, (Below.refl _ _).alloc (Nat.le_refl _) _⟩
  · have H1 := Lib.hid (show c < 0 ∨ (ww : Int) * (hh : Int) - 1 < c by omega)
    have H3 := Lib.hid (decide_eq_false hin)
    clear hin hm
    go_enter Try.func73, Try.ntmps73
    go_wp2_with fail
    refine (in_no _ _ _ _ H1.out).mono ?_
    rintro e w' ⟨rfl, rfl⟩
    go_wp2
    go_ret
    exact ⟨ret_bool H3.out.symm, (Below.refl _ _).alloc (Nat.le_refl _) _⟩

/-- A list of numbers and whether there is one. -/
def NPost (w : World) (zs : List Int) (ok : Bool) (e : Ending) (w' : World) : Prop := ∃ v, e = .returned (.tuple #[v, .bool ok]) ∧ OwnI w' w.heap.size v zs ∧ Below w.heap.size w w'
theorem ownI_nil (w w0 : World) (h : w0.heap.size ≤ w.heap.size) : OwnI (w.alloc (.cells #[] 3)) w0.heap.size (.slice (some ⟨w.heap.size, 0, none⟩) 0 0) [] :=
  World.ownsRow_made (e := 3) (size := 1) w #[] 0 h (Nat.zero_le _) rfl

set_option maxHeartbeats 1000000 in
theorem impl_bad (m : Mp) (a b : Option Addr) (ca cb : Nat) (c : Int) (w : World) (hR : m.R.length ≤ maxLen) (hC : m.C.length ≤ maxLen) (hr : IRow w a m.R) (hc : IRow w b m.C) (h : ¬ m.ok) :
    Calls Try.prog 29 #[.agg #[.int .i64 m.W, .int .i64 m.H, .slice a m.R.length ca, .slice b m.C.length cb], .int .i64 c] w (NPost w [] false) := by
  have HB := Lib.hid ((Below.refl w.heap.size w).alloc (Nat.le_refl _) (.cells #[.int .i64 m.W, .int .i64 m.H, .slice a m.R.length ca, .slice b m.C.length cb] 26))
  have hk := okB_no h
  clear h
  go_enter Try.func29, Try.ntmps29
  go_wp2_with fail
  refine (MapV.impl_any m a b ca cb _ hR hC (RowAt.below hr HB.out) (RowAt.below hc HB.out)).mono ?_
  rw [hk]
  rintro e w1 ⟨rfl, hb1⟩
  have HB1 := Lib.hid (HB.out.trans (hb1.mono (by simp)))
  clear hb1
  go_wp2
  go_ret2
  exact ⟨_, rfl, ownI_nil w1 w HB1.out.size, HB1.out.alloc HB1.out.size _⟩

set_option maxHeartbeats 1000000 in
theorem impl_out (m : Mp) (a b : Option Addr) (ca cb : Nat) (c : Int) (w : World) (hR : m.R.length ≤ maxLen) (hC : m.C.length ≤ maxLen) (hr : IRow w a m.R) (hc : IRow w b m.C) (h : m.ok) (ho : c < 0 ∨ (m.C.length : Int) ≤ c) :
    Calls Try.prog 29 #[.agg #[.int .i64 m.W, .int .i64 m.H, .slice a m.R.length ca, .slice b m.C.length cb], .int .i64 c] w (NPost w [] false) := by
  have HB := Lib.hid ((Below.refl w.heap.size w).alloc (Nat.le_refl _) (.cells #[.int .i64 m.W, .int .i64 m.H, .slice a m.R.length ca, .slice b m.C.length cb] 26))
  have HK := Lib.hid (Blk.new w 26 #[.int .i64 m.W, .int .i64 m.H, .slice a m.R.length ca, .slice b m.C.length cb])
  have hk := okB_yes h
  have HO := Lib.hid ho
  clear h ho
  go_enter Try.func29, Try.ntmps29
  go_wp2_with fail
  refine (MapV.impl_any m a b ca cb _ hR hC (RowAt.below hr HB.out) (RowAt.below hc HB.out)).mono ?_
  rw [hk]
  rintro e w1 ⟨rfl, hb1⟩
  have HB1 := Lib.hid (HB.out.trans (hb1.mono (by simp)))
  have HK1 := Lib.hid (HK.out.later hb1)
  clear hb1
  obtain ⟨p0, p1, p2, p3, -⟩ := HK1.out.four
  go_wp2_with fail
  refine (cell_no m a b ca cb c _ HO.out hC).mono ?_
  rintro e w2 ⟨rfl, hb2⟩
  have HB2 := Lib.hid (HB1.out.trans (hb2.mono HB1.out.size))
  clear hb2
  go_wp2
  go_ret2
  exact ⟨_, rfl, ownI_nil w2 w HB2.out.size, HB2.out.alloc HB2.out.size _⟩

set_option maxHeartbeats 1000000 in
theorem impl_ok (m : Mp) (ww hh : Nat) (g : GoodM m ww hh) (a b : Option Addr) (ca cb : Nat) (c : Nat) (w : World) (hr : IRow w a m.R) (hc : IRow w b m.C) (h : m.ok) (hl : c < ww * hh) :
    Calls Try.prog 29 #[.agg #[.int .i64 m.W, .int .i64 m.H, .slice a m.R.length ca, .slice b m.C.length cb], .int .i64 c] w (NPost w (ints (nx m c)) true) := by
  have HB := Lib.hid ((Below.refl w.heap.size w).alloc (Nat.le_refl _) (.cells #[.int .i64 m.W, .int .i64 m.H, .slice a m.R.length ca, .slice b m.C.length cb] 26))
  have HK := Lib.hid (Blk.new w 26 #[.int .i64 m.W, .int .i64 m.H, .slice a m.R.length ca, .slice b m.C.length cb])
  have hk := okB_yes h
  have hR : m.R.length ≤ maxLen := by have := g.R; have := g.n36; unfold maxLen; omega
  have hC : m.C.length ≤ maxLen := by have := g.C; have := g.n36; unfold maxLen; omega
  have HL := Lib.hid (show c < m.C.length by rw [g.C]; exact hl)
  clear h
  go_enter Try.func29, Try.ntmps29
  go_wp2_with fail
  refine (MapV.impl_any m a b ca cb _ hR hC (RowAt.below hr HB.out) (RowAt.below hc HB.out)).mono ?_
  rw [hk]
  rintro e w1 ⟨rfl, hb1⟩
  have HB1 := Lib.hid (HB.out.trans (hb1.mono (by simp)))
  have HK1 := Lib.hid (HK.out.later hb1)
  clear hb1 hk
  obtain ⟨p0, p1, p2, p3, -⟩ := HK1.out.four
  go_wp2_with fail
  refine (cell_yes m a b ca cb c _ HL.out hC).mono ?_
  rintro e w2 ⟨rfl, hb2⟩
  have HB2 := Lib.hid (HB1.out.trans (hb2.mono HB1.out.size))
  have HK2 := Lib.hid (HK1.out.later hb2)
  clear hb2 p0 p1 p2 p3
  obtain ⟨p0, p1, p2, p3, -⟩ := HK2.out.four
  go_wp2_with fail
  refine (impl_next m ww hh g a b ca cb c _ (RowAt.below hc HB2.out) hl).mono ?_
  rintro e w3 ⟨⟨v, rfl, ho⟩, hb3⟩
  go_wp2
  go_ret2
  exact ⟨_, rfl, rebase ho HB2.out.size, HB2.out.trans (hb3.mono HB2.out.size)⟩

set_option maxHeartbeats 1000000 in
theorem spec_bad (m : Mp) (a b : Option Addr) (ca cb : Nat) (c : Int) (w : World) (hR : m.R.length ≤ maxLen) (hC : m.C.length ≤ maxLen) (hr : IRow w a m.R) (hc : IRow w b m.C) (h : ¬ m.ok) :
    Calls Try.prog 30 #[.agg #[.int .i64 m.W, .int .i64 m.H, .slice a m.R.length ca, .slice b m.C.length cb], .int .i64 c] w (NPost w [] false) := by
  have HB := Lib.hid ((Below.refl w.heap.size w).alloc (Nat.le_refl _) (.cells #[.int .i64 m.W, .int .i64 m.H, .slice a m.R.length ca, .slice b m.C.length cb] 26))
  have hk := okB_no h
  clear h
  go_enter Try.func30, Try.ntmps30
  go_wp2_with fail
  refine (MapV.spec_any m a b ca cb _ hR hC (RowAt.below hr HB.out) (RowAt.below hc HB.out)).mono ?_
  rw [hk]
  rintro e w1 ⟨rfl, hb1⟩
  have HB1 := Lib.hid (HB.out.trans (hb1.mono (by simp)))
  clear hb1
  go_wp2
  go_ret2
  exact ⟨_, rfl, ownI_nil w1 w HB1.out.size, HB1.out.alloc HB1.out.size _⟩

set_option maxHeartbeats 1000000 in
theorem spec_out (m : Mp) (ww hh : Nat) (g : GoodM m ww hh) (a b : Option Addr) (ca cb : Nat) (c : Int) (w : World) (hR : m.R.length ≤ maxLen) (hC : m.C.length ≤ maxLen) (hr : IRow w a m.R) (hc : IRow w b m.C) (h : m.ok) (ho : c < 0 ∨ (m.C.length : Int) ≤ c) :
    Calls Try.prog 30 #[.agg #[.int .i64 m.W, .int .i64 m.H, .slice a m.R.length ca, .slice b m.C.length cb], .int .i64 c] w (NPost w [] false) := by
  have HB := Lib.hid ((Below.refl w.heap.size w).alloc (Nat.le_refl _) (.cells #[.int .i64 m.W, .int .i64 m.H, .slice a m.R.length ca, .slice b m.C.length cb] 26))
  have HK := Lib.hid (Blk.new w 26 #[.int .i64 m.W, .int .i64 m.H, .slice a m.R.length ca, .slice b m.C.length cb])
  have hk := okB_yes h
  have HD := Lib.hid (decide_eq_false (show ¬ (0 ≤ c ∧ c < ((ww * hh : Nat) : Int)) from by have := g.C; omega))
  clear h ho
  go_enter Try.func30, Try.ntmps30
  go_wp2_with fail
  refine (MapV.spec_any m a b ca cb _ hR hC (RowAt.below hr HB.out) (RowAt.below hc HB.out)).mono ?_
  rw [hk]
  rintro e w1 ⟨rfl, hb1⟩
  have HB1 := Lib.hid (HB.out.trans (hb1.mono (by simp)))
  have HK1 := Lib.hid (HK.out.later hb1)
  clear hb1
  obtain ⟨p0, p1, p2, p3, -⟩ := HK1.out.four
  go_wp2_with fail
  refine (scell m ww hh g a b ca cb c _).mono ?_
  rw [HD.out]
  rintro e w2 ⟨rfl, hb2⟩
  have HB2 := Lib.hid (HB1.out.trans (hb2.mono HB1.out.size))
  clear hb2
  go_wp2
  go_ret2
  exact ⟨_, rfl, ownI_nil w2 w HB2.out.size, HB2.out.alloc HB2.out.size _⟩

set_option maxHeartbeats 1000000 in
theorem spec_ok (m : Mp) (ww hh : Nat) (g : GoodM m ww hh) (a b : Option Addr) (ca cb : Nat) (c : Nat) (w : World) (hr : IRow w a m.R) (hc : IRow w b m.C) (h : m.ok) (hl : c < ww * hh) :
    Calls Try.prog 30 #[.agg #[.int .i64 m.W, .int .i64 m.H, .slice a m.R.length ca, .slice b m.C.length cb], .int .i64 c] w (NPost w (ints (nx m c)) true) := by
  have HB := Lib.hid ((Below.refl w.heap.size w).alloc (Nat.le_refl _) (.cells #[.int .i64 m.W, .int .i64 m.H, .slice a m.R.length ca, .slice b m.C.length cb] 26))
  have HK := Lib.hid (Blk.new w 26 #[.int .i64 m.W, .int .i64 m.H, .slice a m.R.length ca, .slice b m.C.length cb])
  have hk := okB_yes h
  have hR : m.R.length ≤ maxLen := by have := g.R; have := g.n36; unfold maxLen; omega
  have hC : m.C.length ≤ maxLen := by have := g.C; have := g.n36; unfold maxLen; omega
  have HD := Lib.hid (decide_eq_true (show (0 : Int) ≤ (c : Int) ∧ (c : Int) < ((ww * hh : Nat) : Int) from by omega))
  clear h
  go_enter Try.func30, Try.ntmps30
  go_wp2_with fail
  refine (MapV.spec_any m a b ca cb _ hR hC (RowAt.below hr HB.out) (RowAt.below hc HB.out)).mono ?_
  rw [hk]
  rintro e w1 ⟨rfl, hb1⟩
  have HB1 := Lib.hid (HB.out.trans (hb1.mono (by simp)))
  have HK1 := Lib.hid (HK.out.later hb1)
  clear hb1 hk
  obtain ⟨p0, p1, p2, p3, -⟩ := HK1.out.four
  go_wp2_with fail
  refine (scell m ww hh g a b ca cb c _).mono ?_
  rw [HD.out]
  rintro e w2 ⟨rfl, hb2⟩
  have HB2 := Lib.hid (HB1.out.trans (hb2.mono HB1.out.size))
  have HK2 := Lib.hid (HK1.out.later hb2)
  clear hb2 p0 p1 p2 p3
  obtain ⟨p0, p1, p2, p3, -⟩ := HK2.out.four
  go_wp2_with fail
  refine (spec_next m ww hh g a b ca cb c _ (RowAt.below hc HB2.out) hl).mono ?_
  rintro e w3 ⟨⟨v, rfl, ho⟩, hb3⟩
  go_wp2
  go_ret2
  exact ⟨_, rfl, rebase ho HB2.out.size, HB2.out.trans (hb3.mono HB2.out.size)⟩

/-- What both answer. -/
theorem both (m : Mp) (c : Int) : ∃ (zs : List Int) (ok : Bool), zs.length ≤ 4 ∧ (ok = true → ∃ ww hh k, GoodM m ww hh ∧ c = (k : Nat) ∧ k < ww * hh ∧ zs = ints (nx m k)) ∧ (ok = false → zs = []) ∧
    (∀ a b ca cb w, m.R.length ≤ maxLen → m.C.length ≤ maxLen → IRow w a m.R → IRow w b m.C → Calls Try.prog 30 #[.agg #[.int .i64 m.W, .int .i64 m.H, .slice a m.R.length ca, .slice b m.C.length cb], .int .i64 c] w (NPost w zs ok)) ∧
    (∀ a b ca cb w, m.R.length ≤ maxLen → m.C.length ≤ maxLen → IRow w a m.R → IRow w b m.C → Calls Try.prog 29 #[.agg #[.int .i64 m.W, .int .i64 m.H, .slice a m.R.length ca, .slice b m.C.length cb], .int .i64 c] w (NPost w zs ok)) := by
  by_cases h : m.ok
  · obtain ⟨ww, hh, g⟩ := good_of h
    by_cases ho : c < 0 ∨ (m.C.length : Int) ≤ c
    · exact ⟨[], false, by simp, (fun e => by cases e), fun _ => rfl, fun a b ca cb w hR hC hr hc => spec_out m ww hh g a b ca cb c w hR hC hr hc h ho, fun a b ca cb w hR hC hr hc => impl_out m a b ca cb c w hR hC hr hc h ho⟩
    · have hC := g.C
      obtain ⟨k, rfl⟩ : ∃ k : Nat, c = k := ⟨c.toNat, by omega⟩
      have hk : k < ww * hh := by omega
      exact ⟨ints (nx m k), true, by rw [ints_length]; exact nx_length m k, fun _ => ⟨ww, hh, k, g, rfl, hk, rfl⟩, (fun e => by cases e), fun a b ca cb w hR hC hr hc => spec_ok m ww hh g a b ca cb k w hr hc h hk, fun a b ca cb w hR hC hr hc => impl_ok m ww hh g a b ca cb k w hr hc h hk⟩
  · exact ⟨[], false, by simp, (fun e => by cases e), fun _ => rfl, fun a b ca cb w hR hC hr hc => spec_bad m a b ca cb c w hR hC hr hc h, fun a b ca cb w hR hC hr hc => impl_bad m a b ca cb c w hR hC hr hc h⟩

theorem both_v (m : Mp) (c : Int) : ∃ (zs : List Int) (ok : Bool), zs.length ≤ 4 ∧
    (∀ a b ca cb w, m.R.length ≤ maxLen → m.C.length ≤ maxLen → IRow w a m.R → IRow w b m.C → Calls Try.prog 30 #[.agg #[.int .i64 m.W, .int .i64 m.H, .slice a m.R.length ca, .slice b m.C.length cb], .int .i64 c] w (NPost w zs ok)) ∧
    (∀ a b ca cb w, m.R.length ≤ maxLen → m.C.length ≤ maxLen → IRow w a m.R → IRow w b m.C → Calls Try.prog 29 #[.agg #[.int .i64 m.W, .int .i64 m.H, .slice a m.R.length ca, .slice b m.C.length cb], .int .i64 c] w (NPost w zs ok)) := by
  obtain ⟨zs, ok, h1, _, _, h2, h3⟩ := both m c
  exact ⟨zs, ok, h1, h2, h3⟩

end Go.Proofs.Ytdphliobjafjaaa.Cells
