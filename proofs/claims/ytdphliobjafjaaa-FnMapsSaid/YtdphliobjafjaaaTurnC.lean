/- TurnMap, MirrorMap: both texts, at every map. -/
import Derived.Test.YtdphliobjafjaaaSpecT
import Derived.Test.YtdphliobjafjaaaSpecM
import Derived.Test.YtdphliobjafjaaaTurnI
import Derived.Test.YtdphliobjafjaaaMirI
namespace Go.Proofs.Ytdphliobjafjaaa.TurnC
open Go.RowKit Lb IntS MapS MapV SpecB
set_option linter.unusedSimpArgs false
set_option linter.unusedVariables false

def noMap : Mp := ⟨0, 0, [], []⟩
theorem own_none (w : World) (base : Nat) : OwnM w base (.agg #[.int .i64 0, .int .i64 0, .slice none 0 0, .slice none 0 0]) noMap :=
  ⟨none, 0, none, 0, rfl, World.ownsRow_nil w base _ _, World.ownsRow_nil w base _ _, fun x y h => by cases h⟩

set_option maxHeartbeats 1000000 in
theorem st_no (m : Mp) (a b : Option Addr) (ca cb : Nat) (w : World) (hR : m.R.length ≤ maxLen) (hC : m.C.length ≤ maxLen) (hr : IRow w a m.R) (hc : IRow w b m.C) (h : ¬ m.ok) :
    Calls Try.prog 17 #[.agg #[.int .i64 m.W, .int .i64 m.H, .slice a m.R.length ca, .slice b m.C.length cb]] w (MPost w noMap false) := by
  have hk := okB_no h
  have HB := Lib.hid (((Below.refl w.heap.size w).alloc (Nat.le_refl _) (.cells #[.int .i64 m.W, .int .i64 m.H, .slice a m.R.length ca, .slice b m.C.length cb] 26)).alloc (by simp) (.cells #[.int .i64 0, .int .i64 0, .slice none 0 0, .slice none 0 0] 26))
  have HQ0 := Lib.hid (Blk.new (w.alloc (.cells #[.int .i64 m.W, .int .i64 m.H, .slice a m.R.length ca, .slice b m.C.length cb] 26)) 26 #[.int .i64 0, .int .i64 0, .slice none 0 0, .slice none 0 0])
  clear h
  go_enter Try.func17, Try.ntmps17
  go_wp2_with fail
  refine (MapV.spec_any m a b ca cb _ hR hC (RowAt.below hr HB.out) (RowAt.below hc HB.out)).mono ?_
  rw [hk]
  rintro e w1 ⟨rfl, hb1⟩
  have HQ1 := Lib.hid (HQ0.out.later hb1)
  have HB1 := Lib.hid (HB.out.trans (hb1.mono (by simp; omega)))
  clear hb1
  have hq := HQ1.out
  rw [World.size_alloc] at hq
  obtain ⟨r0, r1, r2, r3, l0, l1, l2, l3⟩ := hq.four
  clear hq
  go_wp2
  refine bodyPost_ret (v := .tuple #[.agg #[.int .i64 0, .int .i64 0, .slice none 0 0, .slice none 0 0], .bool false]) (by simp [results, Try.results17, go_sem, r0, r1, r2, r3]) rfl ⟨_, rfl, own_none _ _, ?_⟩
  repeat (refine Below.setCell ?_ (by simp) _)
  exact HB1.out

set_option maxHeartbeats 1000000 in
theorem it_no (m : Mp) (a b : Option Addr) (ca cb : Nat) (w : World) (hR : m.R.length ≤ maxLen) (hC : m.C.length ≤ maxLen) (hr : IRow w a m.R) (hc : IRow w b m.C) (h : ¬ m.ok) :
    Calls Try.prog 16 #[.agg #[.int .i64 m.W, .int .i64 m.H, .slice a m.R.length ca, .slice b m.C.length cb]] w (MPost w noMap false) := by
  have hk := okB_no h
  have HB := Lib.hid (((Below.refl w.heap.size w).alloc (Nat.le_refl _) (.cells #[.int .i64 m.W, .int .i64 m.H, .slice a m.R.length ca, .slice b m.C.length cb] 26)).alloc (by simp) (.cells #[.int .i64 0, .int .i64 0, .slice none 0 0, .slice none 0 0] 26))
  have HQ0 := Lib.hid (Blk.new (w.alloc (.cells #[.int .i64 m.W, .int .i64 m.H, .slice a m.R.length ca, .slice b m.C.length cb] 26)) 26 #[.int .i64 0, .int .i64 0, .slice none 0 0, .slice none 0 0])
  clear h
  go_enter Try.func16, Try.ntmps16
  go_wp2_with fail
  refine (MapV.impl_any m a b ca cb _ hR hC (RowAt.below hr HB.out) (RowAt.below hc HB.out)).mono ?_
  rw [hk]
  rintro e w1 ⟨rfl, hb1⟩
  have HQ1 := Lib.hid (HQ0.out.later hb1)
  have HB1 := Lib.hid (HB.out.trans (hb1.mono (by simp; omega)))
  clear hb1
  have hq := HQ1.out
  rw [World.size_alloc] at hq
  obtain ⟨r0, r1, r2, r3, l0, l1, l2, l3⟩ := hq.four
  clear hq
  go_wp2
  refine bodyPost_ret (v := .tuple #[.agg #[.int .i64 0, .int .i64 0, .slice none 0 0, .slice none 0 0], .bool false]) (by simp [results, Try.results16, go_sem, r0, r1, r2, r3]) rfl ⟨_, rfl, own_none _ _, ?_⟩
  repeat (refine Below.setCell ?_ (by simp) _)
  exact HB1.out

set_option maxHeartbeats 1000000 in
theorem sm_no (m : Mp) (a b : Option Addr) (ca cb : Nat) (w : World) (hR : m.R.length ≤ maxLen) (hC : m.C.length ≤ maxLen) (hr : IRow w a m.R) (hc : IRow w b m.C) (h : ¬ m.ok) :
    Calls Try.prog 21 #[.agg #[.int .i64 m.W, .int .i64 m.H, .slice a m.R.length ca, .slice b m.C.length cb]] w (MPost w noMap false) := by
  have hk := okB_no h
  have HB := Lib.hid (((Below.refl w.heap.size w).alloc (Nat.le_refl _) (.cells #[.int .i64 m.W, .int .i64 m.H, .slice a m.R.length ca, .slice b m.C.length cb] 26)).alloc (by simp) (.cells #[.int .i64 0, .int .i64 0, .slice none 0 0, .slice none 0 0] 26))
  have HQ0 := Lib.hid (Blk.new (w.alloc (.cells #[.int .i64 m.W, .int .i64 m.H, .slice a m.R.length ca, .slice b m.C.length cb] 26)) 26 #[.int .i64 0, .int .i64 0, .slice none 0 0, .slice none 0 0])
  clear h
  go_enter Try.func21, Try.ntmps21
  go_wp2_with fail
  refine (MapV.spec_any m a b ca cb _ hR hC (RowAt.below hr HB.out) (RowAt.below hc HB.out)).mono ?_
  rw [hk]
  rintro e w1 ⟨rfl, hb1⟩
  have HQ1 := Lib.hid (HQ0.out.later hb1)
  have HB1 := Lib.hid (HB.out.trans (hb1.mono (by simp; omega)))
  clear hb1
  have hq := HQ1.out
  rw [World.size_alloc] at hq
  obtain ⟨r0, r1, r2, r3, l0, l1, l2, l3⟩ := hq.four
  clear hq
  go_wp2
  refine bodyPost_ret (v := .tuple #[.agg #[.int .i64 0, .int .i64 0, .slice none 0 0, .slice none 0 0], .bool false]) (by simp [results, Try.results21, go_sem, r0, r1, r2, r3]) rfl ⟨_, rfl, own_none _ _, ?_⟩
  repeat (refine Below.setCell ?_ (by simp) _)
  exact HB1.out

set_option maxHeartbeats 1000000 in
theorem im_no (m : Mp) (a b : Option Addr) (ca cb : Nat) (w : World) (hR : m.R.length ≤ maxLen) (hC : m.C.length ≤ maxLen) (hr : IRow w a m.R) (hc : IRow w b m.C) (h : ¬ m.ok) :
    Calls Try.prog 20 #[.agg #[.int .i64 m.W, .int .i64 m.H, .slice a m.R.length ca, .slice b m.C.length cb]] w (MPost w noMap false) := by
  have hk := okB_no h
  have HB := Lib.hid (((Below.refl w.heap.size w).alloc (Nat.le_refl _) (.cells #[.int .i64 m.W, .int .i64 m.H, .slice a m.R.length ca, .slice b m.C.length cb] 26)).alloc (by simp) (.cells #[.int .i64 0, .int .i64 0, .slice none 0 0, .slice none 0 0] 26))
  have HQ0 := Lib.hid (Blk.new (w.alloc (.cells #[.int .i64 m.W, .int .i64 m.H, .slice a m.R.length ca, .slice b m.C.length cb] 26)) 26 #[.int .i64 0, .int .i64 0, .slice none 0 0, .slice none 0 0])
  clear h
  go_enter Try.func20, Try.ntmps20
  go_wp2_with fail
  refine (MapV.impl_any m a b ca cb _ hR hC (RowAt.below hr HB.out) (RowAt.below hc HB.out)).mono ?_
  rw [hk]
  rintro e w1 ⟨rfl, hb1⟩
  have HQ1 := Lib.hid (HQ0.out.later hb1)
  have HB1 := Lib.hid (HB.out.trans (hb1.mono (by simp; omega)))
  clear hb1
  have hq := HQ1.out
  rw [World.size_alloc] at hq
  obtain ⟨r0, r1, r2, r3, l0, l1, l2, l3⟩ := hq.four
  clear hq
  go_wp2
  refine bodyPost_ret (v := .tuple #[.agg #[.int .i64 0, .int .i64 0, .slice none 0 0, .slice none 0 0], .bool false]) (by simp [results, Try.results20, go_sem, r0, r1, r2, r3]) rfl ⟨_, rfl, own_none _ _, ?_⟩
  repeat (refine Below.setCell ?_ (by simp) _)
  exact HB1.out

/-- What both answer: turn. -/
theorem turn_both (m : Mp) : ∃ (m' : Mp) (ok : Bool), m'.R.length ≤ 36 ∧ m'.C.length ≤ 36 ∧ (ok = true → m.ok ∧ m' = turnM m) ∧ (ok = false → ¬ m.ok ∧ m' = noMap) ∧
    (∀ a b ca cb w, m.R.length ≤ maxLen → m.C.length ≤ maxLen → IRow w a m.R → IRow w b m.C → Calls Try.prog 17 #[.agg #[.int .i64 m.W, .int .i64 m.H, .slice a m.R.length ca, .slice b m.C.length cb]] w (MPost w m' ok)) ∧
    (∀ a b ca cb w, m.R.length ≤ maxLen → m.C.length ≤ maxLen → IRow w a m.R → IRow w b m.C → Calls Try.prog 16 #[.agg #[.int .i64 m.W, .int .i64 m.H, .slice a m.R.length ca, .slice b m.C.length cb]] w (MPost w m' ok)) := by
  by_cases h : m.ok
  · obtain ⟨ww, hh, g⟩ := good_of h
    obtain ⟨g', e'⟩ := turn_ok g
    have n36 := g.n36
    refine ⟨turnM m, true, by rw [e']; simp only; rw [gath_length]; exact n36, by rw [e']; simp only; rw [gath_length]; exact n36, fun _ => ⟨h, rfl⟩, (fun e => by cases e), fun a b ca cb w _ _ hr hc => ?_, fun a b ca cb w _ _ hr hc => ?_⟩
    · rw [e']
      have e := mp_eq g
      obtain ⟨W, H, R, C⟩ := m
      cases e
      exact SpecT.turn_raw ww hh R C a b ca cb w g hr hc
    · rw [e']
      have e := mp_eq g
      obtain ⟨W, H, R, C⟩ := m
      cases e
      exact TurnI.turn_raw ww hh R C a b ca cb w g hr hc
  · exact ⟨noMap, false, by simp [noMap], by simp [noMap], (fun e => by cases e), fun _ => ⟨h, rfl⟩, fun a b ca cb w hR hC hr hc => st_no m a b ca cb w hR hC hr hc h, fun a b ca cb w hR hC hr hc => it_no m a b ca cb w hR hC hr hc h⟩
theorem turn_v (m : Mp) : ∃ (m' : Mp) (ok : Bool), m'.R.length ≤ 36 ∧ m'.C.length ≤ 36 ∧
    (∀ a b ca cb w, m.R.length ≤ maxLen → m.C.length ≤ maxLen → IRow w a m.R → IRow w b m.C → Calls Try.prog 17 #[.agg #[.int .i64 m.W, .int .i64 m.H, .slice a m.R.length ca, .slice b m.C.length cb]] w (MPost w m' ok)) ∧
    (∀ a b ca cb w, m.R.length ≤ maxLen → m.C.length ≤ maxLen → IRow w a m.R → IRow w b m.C → Calls Try.prog 16 #[.agg #[.int .i64 m.W, .int .i64 m.H, .slice a m.R.length ca, .slice b m.C.length cb]] w (MPost w m' ok)) := by
  obtain ⟨m', ok, h1, h2, _, _, h3, h4⟩ := turn_both m
  exact ⟨m', ok, h1, h2, h3, h4⟩

/-- What both answer: mir. -/
theorem mir_both (m : Mp) : ∃ (m' : Mp) (ok : Bool), m'.R.length ≤ 36 ∧ m'.C.length ≤ 36 ∧ (ok = true → m.ok ∧ m' = mirM m) ∧ (ok = false → ¬ m.ok ∧ m' = noMap) ∧
    (∀ a b ca cb w, m.R.length ≤ maxLen → m.C.length ≤ maxLen → IRow w a m.R → IRow w b m.C → Calls Try.prog 21 #[.agg #[.int .i64 m.W, .int .i64 m.H, .slice a m.R.length ca, .slice b m.C.length cb]] w (MPost w m' ok)) ∧
    (∀ a b ca cb w, m.R.length ≤ maxLen → m.C.length ≤ maxLen → IRow w a m.R → IRow w b m.C → Calls Try.prog 20 #[.agg #[.int .i64 m.W, .int .i64 m.H, .slice a m.R.length ca, .slice b m.C.length cb]] w (MPost w m' ok)) := by
  by_cases h : m.ok
  · obtain ⟨ww, hh, g⟩ := good_of h
    obtain ⟨g', e'⟩ := mir_ok g
    have n36 := g.n36
    refine ⟨mirM m, true, by rw [e']; simp only; rw [gath_length]; exact n36, by rw [e']; simp only; rw [gath_length]; exact n36, fun _ => ⟨h, rfl⟩, (fun e => by cases e), fun a b ca cb w _ _ hr hc => ?_, fun a b ca cb w _ _ hr hc => ?_⟩
    · rw [e']
      have e := mp_eq g
      obtain ⟨W, H, R, C⟩ := m
      cases e
      exact SpecM.mir_raw ww hh R C a b ca cb w g hr hc
    · rw [e']
      have e := mp_eq g
      obtain ⟨W, H, R, C⟩ := m
      cases e
      exact MirI.mir_raw ww hh R C a b ca cb w g hr hc
  · exact ⟨noMap, false, by simp [noMap], by simp [noMap], (fun e => by cases e), fun _ => ⟨h, rfl⟩, fun a b ca cb w hR hC hr hc => sm_no m a b ca cb w hR hC hr hc h, fun a b ca cb w hR hC hr hc => im_no m a b ca cb w hR hC hr hc h⟩
theorem mir_v (m : Mp) : ∃ (m' : Mp) (ok : Bool), m'.R.length ≤ 36 ∧ m'.C.length ≤ 36 ∧
    (∀ a b ca cb w, m.R.length ≤ maxLen → m.C.length ≤ maxLen → IRow w a m.R → IRow w b m.C → Calls Try.prog 21 #[.agg #[.int .i64 m.W, .int .i64 m.H, .slice a m.R.length ca, .slice b m.C.length cb]] w (MPost w m' ok)) ∧
    (∀ a b ca cb w, m.R.length ≤ maxLen → m.C.length ≤ maxLen → IRow w a m.R → IRow w b m.C → Calls Try.prog 20 #[.agg #[.int .i64 m.W, .int .i64 m.H, .slice a m.R.length ca, .slice b m.C.length cb]] w (MPost w m' ok)) := by
  obtain ⟨m', ok, h1, h2, _, _, h3, h4⟩ := mir_both m
  exact ⟨m', ok, h1, h2, h3, h4⟩

end Go.Proofs.Ytdphliobjafjaaa.TurnC
