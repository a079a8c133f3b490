/- The laws' own helpers over maps: contracts (without 'held'). -/
import Derived.Test.YtfpfnnindlfgfaaIntS
namespace Go.Proofs.Ytfpfnnindlfgfaa.MapS
open Go.RowKit Lb IntS
set_option linter.unusedSimpArgs false
set_option linter.unusedVariables false

/-- A map in memory of the call's own. -/
def OwnM (w : World) (base : Nat) (v : Value) (m : Mp) : Prop :=
  ∃ a ca b cb, v = .agg #[.int .i64 m.W, .int .i64 m.H, .slice a m.R.length ca, .slice b m.C.length cb] ∧ OwnI w base (.slice a m.R.length ca) m.R ∧ OwnI w base (.slice b m.C.length cb) m.C ∧ ∀ x y, a = some x → b = some y → x.block ≠ y.block

/-- A map that can be read. -/
def MapAt (w : World) (v : Value) (m : Mp) : Prop := ∃ a ca b cb, v = .agg #[.int .i64 m.W, .int .i64 m.H, .slice a m.R.length ca, .slice b m.C.length cb] ∧ IRow w a m.R ∧ IRow w b m.C

theorem OwnI.row {w : World} {base : Nat} {a : Option Addr} {cap : Nat} {zs : List Int} (h : OwnI w base (.slice a zs.length cap) zs) : IRow w a zs := by
  obtain ⟨a', c', e, hr, _⟩ := OwnI.slice h
  cases e; exact hr
theorem OwnI.lt {w : World} {base : Nat} {a : Option Addr} {cap n : Nat} {zs : List Int} (h : OwnI w base (.slice a n cap) zs) : ∀ x, a = some x → base ≤ x.block ∧ x.block < w.heap.size := by
  obtain ⟨a', c', e, _, hk⟩ := OwnI.slice h
  cases e; exact hk
theorem OwnM.at_ {w : World} {base : Nat} {v : Value} {m : Mp} (h : OwnM w base v m) : MapAt w v m := by
  obtain ⟨a, ca, b, cb, rfl, h1, h2, _⟩ := h
  exact ⟨a, ca, b, cb, rfl, OwnI.row h1, OwnI.row h2⟩
theorem OwnM.below {B : Nat} {w w' : World} {base : Nat} {v : Value} {m : Mp} (h : OwnM w base v m) (hb : Below B w w') (hB : w.heap.size ≤ B) : OwnM w' base v m := by
  obtain ⟨a, ca, b, cb, rfl, h1, h2, h3⟩ := h
  exact ⟨a, ca, b, cb, rfl, OwnI.belowB h1 hb hB, OwnI.belowB h2 hb hB, h3⟩
theorem MapAt.below {B : Nat} {w w' : World} {v : Value} {m : Mp} (h : MapAt w v m) (hb : Below B w w') (hB : w.heap.size ≤ B) : MapAt w' v m := by
  obtain ⟨a, ca, b, cb, rfl, h1, h2⟩ := h
  exact ⟨a, ca, b, cb, rfl, RowAt.belowB h1 hb hB, RowAt.belowB h2 hb hB⟩

theorem bcell {W w1 : World} (hb : Below W.heap.size W w1) : (∀ b o, b < W.heap.size → w1.cell? ⟨b, o, none⟩ = W.cell? ⟨b, o, none⟩) ∧ (∀ b o, b < W.heap.size → w1.frozen? ⟨b, o, none⟩ = W.frozen? ⟨b, o, none⟩) :=
  ⟨fun b o h => hb.cell (p := ⟨b, o, none⟩) h, fun b o h => hb.frozen (p := ⟨b, o, none⟩) h⟩

/-- A block known whole. -/
def Blk (w : World) (g : Nat) (t : TypeId) (cs : Array Value) : Prop := w.heap[g]? = some (.cells cs t (0, 0))
theorem Blk.lt {w : World} {g : Nat} {t : TypeId} {cs : Array Value} (h : Blk w g t cs) : g < w.heap.size := by
  rcases Nat.lt_or_ge g w.heap.size with hlt | hge
  · exact hlt
  · unfold Blk at h; rw [Array.getElem?_eq_none hge] at h; cases h
theorem Blk.new (w : World) (t : TypeId) (cs : Array Value) : Blk (w.alloc (.cells cs t)) w.heap.size t cs := heap_alloc_new w _
theorem Blk.alloc {w : World} {g : Nat} {t : TypeId} {cs : Array Value} (h : Blk w g t cs) (o : Obj) : Blk (w.alloc o) g t cs := (Below.heap_alloc w o g h.lt).trans h
theorem Blk.set_ {w : World} {g : Nat} {t : TypeId} {cs : Array Value} (h : Blk w g t cs) (i : Nat) (u : Value) : Blk (w.setCell ⟨g, i, none⟩ u) g t (cs.setIfInBounds i u) := by
  unfold Blk at h ⊢
  simp [World.setCell, Array.getElem?_modify, h]
theorem Blk.far {w : World} {g : Nat} {t : TypeId} {cs : Array Value} (h : Blk w g t cs) {p : Addr} (hp : g ≠ p.block) (u : Value) : Blk (w.setCell p u) g t cs := (Below.heap_setCell w p u g hp).trans h
theorem Blk.below {B : Nat} {w w' : World} {g : Nat} {t : TypeId} {cs : Array Value} (h : Blk w g t cs) (hb : Below B w w') (hg : g < B) : Blk w' g t cs := (hb.block g hg).trans h
theorem Blk.later {w w' : World} {g : Nat} {t : TypeId} {cs : Array Value} (h : Blk w g t cs) (hb : Below w.heap.size w w') : Blk w' g t cs := h.below hb h.lt
theorem Blk.four {w : World} {g : Nat} {t : TypeId} {x0 x1 x2 x3 : Value} (h : Blk w g t #[x0, x1, x2, x3]) :
    w.cell? ⟨g, 0, none⟩ = some x0 ∧ w.cell? ⟨g, 1, none⟩ = some x1 ∧ w.cell? ⟨g, 2, none⟩ = some x2 ∧ w.cell? ⟨g, 3, none⟩ = some x3 ∧ w.frozen? ⟨g, 0, none⟩ = false ∧ w.frozen? ⟨g, 1, none⟩ = false ∧ w.frozen? ⟨g, 2, none⟩ = false ∧ w.frozen? ⟨g, 3, none⟩ = false := by
  unfold Blk at h
  simp [World.cell?, World.frozen?, h]
theorem Blk.one {w : World} {g : Nat} {t : TypeId} {x : Value} (h : Blk w g t #[x]) : w.cell? ⟨g, 0, none⟩ = some x ∧ w.frozen? ⟨g, 0, none⟩ = false := by
  unfold Blk at h
  simp [World.cell?, World.frozen?, h]

set_option maxHeartbeats 400000 in
theorem sz_no (m : Mp) (a b : Option Addr) (ca cb : Nat) (w : World) (hR : m.R.length ≤ maxLen) (hC : m.C.length ≤ maxLen) (h : 1048576 < m.R.length + m.C.length) :
    Calls Try.prog 59 #[.agg #[.int .i64 m.W, .int .i64 m.H, .slice a m.R.length ca, .slice b m.C.length cb], .int .i64 1048576] w fun e w' => e = .returned (.int .i64 (-1)) ∧ Below w.heap.size w w' := by
  have hR' := hR
  have hC' := hC
  unfold maxLen at hR' hC'
  by_cases h1 : (1048576 : Int) - m.R.length < 0
  · go_enter Try.func59, Try.ntmps59
    go_wp2_with (go_at_call 116; refine (IntS.sz_no _ _ _ _ _ hR (by omega) (by omega) h1).mono ?_; rintro e w' ⟨rfl, rfl⟩)
    go_ret
    exact ⟨rfl, (Below.refl _ _).alloc (Nat.le_refl _) _⟩
  · have h2 : (1048576 : Int) - m.R.length - m.C.length < 0 := by omega
    have h1' : 0 ≤ (1048576 : Int) - m.R.length := by omega
    go_enter Try.func59, Try.ntmps59
    go_wp2_with fail
    refine (IntS.sz_yes _ _ _ _ _ hR (by omega) h1').mono ?_
    rintro e w' ⟨rfl, rfl⟩
    go_wp2_with fail
    refine (IntS.sz_no _ _ _ _ _ hC h1' (by omega) h2).mono ?_
    rintro e w' ⟨rfl, rfl⟩
    go_wp2
    go_ret
    exact ⟨rfl, (Below.refl _ _).alloc (Nat.le_refl _) _⟩

set_option maxHeartbeats 400000 in
theorem sz_yes (m : Mp) (a b : Option Addr) (ca cb : Nat) (w : World) (h : m.R.length + m.C.length ≤ 1048576) :
    Calls Try.prog 59 #[.agg #[.int .i64 m.W, .int .i64 m.H, .slice a m.R.length ca, .slice b m.C.length cb], .int .i64 1048576] w fun e w' => e = .returned (.int .i64 (1048576 - m.R.length - m.C.length)) ∧ Below w.heap.size w w' := by
  have hR : m.R.length ≤ maxLen := by unfold maxLen; omega
  have hC : m.C.length ≤ maxLen := by unfold maxLen; omega
  have h2 : 0 ≤ (1048576 : Int) - m.R.length - m.C.length := by omega
  have h1' : 0 ≤ (1048576 : Int) - m.R.length := by omega
  go_enter Try.func59, Try.ntmps59
  go_wp2_with fail
  refine (IntS.sz_yes _ _ _ _ _ hR (by omega) h1').mono ?_
  rintro e w' ⟨rfl, rfl⟩
  go_wp2_with fail
  refine (IntS.sz_yes _ _ _ _ _ hC (by omega) h2).mono ?_
  rintro e w' ⟨rfl, rfl⟩
  go_wp2
  go_ret
  exact ⟨rfl, (Below.refl _ _).alloc (Nat.le_refl _) _⟩

set_option maxHeartbeats 1000000 in
theorem to_any (m : Mp) (a b : Option Addr) (ca cb : Nat) (w : World) (hr : IRow w a m.R) (hc : IRow w b m.C) (h : m.R.length + m.C.length ≤ 1048576) :
    Calls Try.prog 61 #[.agg #[.int .i64 m.W, .int .i64 m.H, .slice a m.R.length ca, .slice b m.C.length cb]] w fun e w' => (∃ v, e = .returned v ∧ OwnM w' w.heap.size v m) ∧ Below w.heap.size w w' := by
  go_enter Try.func61, Try.ntmps61
  go_wp2_with fail
  refine (IntS.to_any a ca m.R _ (RowAt.below hr (((Below.refl _ _).alloc (Nat.le_refl _) _ |>.alloc (by simp) _).alloc (by simp; omega) _)) (by omega)).mono ?_
  rintro e w1 ⟨⟨v1, rfl, ho1⟩, hb1⟩
  obtain ⟨a1, c1, rfl, -, -⟩ := OwnI.slice ho1
  have B0 := (((Blk.new w 61 #[.int .i64 m.W, .int .i64 m.H, .slice a m.R.length ca, .slice b m.C.length cb]).alloc _).alloc _).later hb1
  have B1 := ((Blk.new (w.alloc (.cells #[.int .i64 m.W, .int .i64 m.H, .slice a m.R.length ca, .slice b m.C.length cb] 61)) 26 #[.int .i64 0, .int .i64 0, .slice none 0 0, .slice none 0 0]).alloc _).later hb1
  have B2 := (Blk.new ((w.alloc (.cells #[.int .i64 m.W, .int .i64 m.H, .slice a m.R.length ca, .slice b m.C.length cb] 61)).alloc (.cells #[.int .i64 0, .int .i64 0, .slice none 0 0, .slice none 0 0] 26)) 26 #[.int .i64 m.W, .int .i64 m.H, .slice none 0 0, .slice none 0 0]).later hb1
  simp only [World.size_alloc] at B1 B2
  have hz := hb1.size
  simp only [World.size_alloc] at hz
  have HO1 := Lib.hid ho1
  have HB1 := Lib.hid (show Below w.heap.size w w1 from ((((Below.refl _ _).alloc (Nat.le_refl _) _).alloc (by simp) _).alloc (by simp; omega) _).trans (hb1.mono (by simp; omega)))
  clear ho1 hb1
  obtain ⟨p0, p1, p2, p3, -⟩ := B0.four
  obtain ⟨q0, q1, q2, q3, g0, g1, g2, g3⟩ := B1.four
  obtain ⟨r0, r1, r2, r3, f0, f1, f2, f3⟩ := B2.four
  go_wp2_with fail
  clear p0 p1 p2 p3 q0 q1 q2 q3 g0 g1 g2 g3 r0 r1 r2 r3 f0 f1 f2 f3
  refine (IntS.to_any b cb m.C _ (RowAt.below hc (HB1.out.setCell (by simp; omega) _)) (by omega)).mono ?_
  rintro e w2 ⟨⟨v2, rfl, ho2⟩, hb2⟩
  obtain ⟨a2, c2, rfl, -, -⟩ := OwnI.slice ho2
  have B1' := (B1.far (p := ⟨w.heap.size + 1 + 1, 2, none⟩) (by simp) (.slice a1 m.R.length c1)).later hb2
  have B2' := (B2.set_ 2 (.slice a1 m.R.length c1)).later hb2
  simp only [List.setIfInBounds_toArray, List.set_cons_succ, List.set_cons_zero] at B2'
  have hz2 := hb2.size
  simp only [World.size_setCell] at hz2
  have HO2 := Lib.hid ho2
  have HB2 := Lib.hid hb2
  clear ho2 hb2
  have HQ1 := Lib.hid B1'
  have HQ2 := Lib.hid B2'
  obtain ⟨q0, q1, q2, q3, g0, g1, g2, g3⟩ := B1'.four
  obtain ⟨r0, r1, r2, r3, f0, f1, f2, f3⟩ := B2'.four
  clear B0 B1 B2 B1' B2'
  go_wp2_with fail
  refine bodyPost_ret (v := .agg #[.int .i64 m.W, .int .i64 m.H, .slice a1 m.R.length c1, .slice a2 m.C.length c2]) (by simp [results, Try.results61, go_sem, q0, q1, q2, q3, r0, r1, r2, r3]) rfl ⟨⟨_, rfl, a1, c1, a2, c2, rfl, ?_, ?_, ?_⟩, ?_⟩
  · refine rebase (b := w.heap.size + 1 + 1 + 1) ?_ (by omega)
    have o1 := HO1.out
    simp only [OwnI, World.size_alloc] at o1
    have o2 := owns_below (ownsRow_setCell_below o1 (a := ⟨w.heap.size + 1 + 1, 2, none⟩) (by simp) (.slice a1 m.R.length c1)) HB2.out
    repeat (refine ownsRow_setCell_below ?_ (by simp) _)
    exact o2
  · refine rebase (b := w1.heap.size) ?_ (by omega)
    have o1 := HO2.out
    simp only [OwnI, World.size_setCell] at o1
    repeat (refine ownsRow_setCell_below ?_ (by simp; omega) _)
    exact o1
  · intro x y hx hy
    have h1 := (OwnI.lt HO1.out x hx).2
    have h2 := (OwnI.lt HO2.out y hy).1
    simp only [World.size_setCell] at h2
    omega
  · have hb := (HB1.out.setCell (p := ⟨w.heap.size + 1 + 1, 2, none⟩) (by simp; omega) (.slice a1 m.R.length c1)).trans (HB2.out.mono (by simp; omega))
    repeat (refine Below.setCell ?_ (by simp <;> omega) _)
    exact hb

/-- What has turned lies in blocks from 'lo' to 'hi', and in new ones. -/
structure Chg (lo hi : Nat) (w w' : World) : Prop where
  os : w'.os = w.os
  tape : w'.tape = w.tape
  output : w'.output = w.output
  size : w.heap.size ≤ w'.heap.size
  block : ∀ k, k < w.heap.size → (k < lo ∨ hi ≤ k) → w'.heap[k]? = w.heap[k]?
theorem Chg.refl (lo hi : Nat) (w : World) : Chg lo hi w w := ⟨rfl, rfl, rfl, Nat.le_refl _, fun _ _ _ => rfl⟩
theorem Chg.trans {lo hi : Nat} {a b c : World} (h : Chg lo hi a b) (k : Chg lo hi b c) : Chg lo hi a c :=
  ⟨k.os.trans h.os, k.tape.trans h.tape, k.output.trans h.output, Nat.le_trans h.size k.size, fun i hi hr => (k.block i (Nat.lt_of_lt_of_le hi h.size) hr).trans (h.block i hi hr)⟩
theorem Chg.of_below {a b : World} (h : Below a.heap.size a b) (lo hi : Nat) : Chg lo hi a b := ⟨h.os, h.tape, h.output, h.size, fun k hk _ => h.block k hk⟩
theorem Chg.of_grown {a b : World} {r : Option Nat} {lo hi : Nat} (h : a.grownBy b r) (hr : ∀ k, r = some k → lo ≤ k ∧ k < hi) : Chg lo hi a b :=
  ⟨h.os, h.tape, h.output, h.size, fun k hk hc => h.block k hk (fun e => by have := hr k e.symm; omega)⟩
theorem Chg.below {a b : World} {lo hi : Nat} (h : Chg lo hi a b) (hB : lo ≤ a.heap.size) : Below lo a b := ⟨h.os, h.tape, h.output, h.size, fun k hk => h.block k (by omega) (.inl hk)⟩
theorem Chg.row {a b : World} {lo hi : Nat} (h : Chg lo hi a b) {x : Option Addr} {n : Nat} {f : Nat → Value} (hr : RowAt a x n f) (hx : ∀ p, x = some p → p.block < lo ∨ hi ≤ p.block) : RowAt b x n f := by
  rcases hr with h0 | ⟨g, o, rfl, hc⟩
  · exact .inl h0
  · refine .inr ⟨g, o, rfl, fun k hk => ?_⟩
    have hl := World.block_lt_of_cell? a _ (hc k hk)
    exact (World.cell?_of_block (h.block g hl (hx _ rfl))).trans (hc k hk)
theorem Chg.own {a b : World} {lo hi base : Nat} (h : Chg lo hi a b) {x : Option Addr} {n cap : Nat} {zs : List Int} (hr : OwnI a base (.slice x n cap) zs) (hx : ∀ p, x = some p → p.block < lo ∨ hi ≤ p.block) : OwnI b base (.slice x n cap) zs := by
  have hlt := OwnI.lt hr
  unfold OwnI at hr ⊢
  refine ⟨hr.1, ?_⟩
  rcases hr.2 with h2 | ⟨g, c, cur, hv, hg, hh, r⟩
  · exact .inl h2
  · refine .inr ⟨g, c, cur, hv, hg, ?_, r⟩
    have e : x = some ⟨g, 0, none⟩ := (Value.slice.inj hv).1
    exact (h.block g (hlt _ e).2 (hx _ e)).trans hh

/-- The map after marking. -/
def markM (m : Mp) : Mp := ⟨m.W, m.H, markZ 1 m.R.length, markZ (1 + m.R.length) m.C.length⟩

set_option maxHeartbeats 400000 in
theorem eq_same (m : Mp) (a b a' b' : Option Addr) (ca cb ca' cb' : Nat) (w : World) (h1 : IRow w a m.R) (h2 : IRow w b m.C) (h3 : IRow w a' m.R) (h4 : IRow w b' m.C) (hR : m.R.length ≤ maxLen) (hC : m.C.length ≤ maxLen) :
    Calls Try.prog 63 #[.agg #[.int .i64 m.W, .int .i64 m.H, .slice a m.R.length ca, .slice b m.C.length cb], .agg #[.int .i64 m.W, .int .i64 m.H, .slice a' m.R.length ca', .slice b' m.C.length cb']] w fun e w' => e = .returned (.bool true) ∧ Below w.heap.size w w' := by
  have HB := Lib.hid (fun o o' => ((Below.refl w.heap.size w).alloc (Nat.le_refl _) o).alloc (by simp) o')
  go_enter Try.func63, Try.ntmps63
  go_wp2_with fail
  refine (IntS.eq_same _ _ _ _ m.R _ (RowAt.below h1 (HB.out _ _)) (RowAt.below h3 (HB.out _ _)) hR).mono ?_
  rintro e w1 ⟨rfl, hb1⟩
  have B0 := ((Blk.new w 26 #[.int .i64 m.W, .int .i64 m.H, .slice a m.R.length ca, .slice b m.C.length cb]).alloc (.cells #[.int .i64 m.W, .int .i64 m.H, .slice a' m.R.length ca', .slice b' m.C.length cb'] 26)).later hb1
  have B1 := (Blk.new (w.alloc (.cells #[.int .i64 m.W, .int .i64 m.H, .slice a m.R.length ca, .slice b m.C.length cb] 26)) 26 #[.int .i64 m.W, .int .i64 m.H, .slice a' m.R.length ca', .slice b' m.C.length cb']).later hb1
  simp only [World.size_alloc] at B1
  have HB1 := Lib.hid ((HB.out _ _).trans (hb1.mono (by simp; omega)))
  clear hb1
  obtain ⟨p0, p1, p2, p3, -⟩ := B0.four
  obtain ⟨q0, q1, q2, q3, -⟩ := B1.four
  go_wp2_with fail
  refine (IntS.eq_same _ _ _ _ m.C _ (RowAt.below h2 HB1.out) (RowAt.below h4 HB1.out) hC).mono ?_
  rintro e w2 ⟨rfl, hb2⟩
  go_wp2
  go_ret
  exact ⟨rfl, HB1.out.trans (hb2.mono HB1.out.size)⟩

set_option maxHeartbeats 1000000 in
theorem mark_any (m : Mp) (a b : Option Addr) (ca cb base hi : Nat) (w w0 : World) (ha : OwnI w base (.slice a m.R.length ca) m.R) (hb : OwnI w base (.slice b m.C.length cb) m.C) (hne : ∀ x y, a = some x → b = some y → x.block ≠ y.block)
    (hha : ∀ x, a = some x → x.block < hi) (hhb : ∀ x, b = some x → x.block < hi) (h : m.R.length + m.C.length ≤ 1048576) (hbase : base ≤ w.heap.size) :
    Calls Try.prog 66 #[.agg #[.int .i64 m.W, .int .i64 m.H, .slice a m.R.length ca, .slice b m.C.length cb], .int .i64 1] w fun e w' => e = .returned (.int .i64 (1 + m.R.length + m.C.length)) ∧ OwnI w' base (.slice a m.R.length ca) (markM m).R ∧ OwnI w' base (.slice b m.C.length cb) (markM m).C ∧ Chg base hi w w' := by
  have hka := OwnI.lt ha
  have hkb := OwnI.lt hb
  have HA := Lib.hid ha
  have HC := Lib.hid hb
  have HN := Lib.hid hne
  have HI := Lib.hid hha
  have HJ := Lib.hid hhb
  have HK := Lib.hid hka
  have HL := Lib.hid hkb
  clear ha hb hne hha hhb hka hkb
  go_enter Try.func66, Try.ntmps66
  go_wp2_with fail
  refine (IntS.mark_any base a ca m.R 1 _ (HA.out.belowB ((Below.refl _ _).alloc (Nat.le_refl _) _) (Nat.le_refl _)) (by omega) (by omega)).mono ?_
  rintro e w1 ⟨rfl, hm1, hg1⟩
  have hc0 : Chg base hi w (w.alloc (.cells #[.int .i64 m.W, .int .i64 m.H, .slice a m.R.length ca, .slice b m.C.length cb] 26)) := Chg.of_below ((Below.refl _ _).alloc (Nat.le_refl _) _) _ _
  have hc1 := hc0.trans (Chg.of_grown hg1 (fun k e => by
    cases a with
    | none => cases e
    | some x =>
      obtain rfl : x.block = k := by simpa [Value.ownBlock] using e
      exact ⟨(HK.out x rfl).1, HI.out x rfl⟩))
  have B0 : Blk w1 w.heap.size 26 #[.int .i64 m.W, .int .i64 m.H, .slice a m.R.length ca, .slice b m.C.length cb] := by
    refine (hg1.block w.heap.size (by simp) (fun e => ?_)).trans (Blk.new w 26 _)
    cases a with
    | none => cases e
    | some x =>
      have h1 : w.heap.size = x.block := by simpa [Value.ownBlock] using e
      have h2 := (HK.out x rfl).2
      omega
  have HC1 : OwnI w1 base (.slice b m.C.length cb) m.C := by
    have hb0 := HC.out.belowB ((Below.refl w.heap.size w).alloc (Nat.le_refl _) (.cells #[.int .i64 m.W, .int .i64 m.H, .slice a m.R.length ca, .slice b m.C.length cb] 26)) (Nat.le_refl _)
    refine World.ownsRow.kept hb0 hg1 ?_
    cases b with
    | none => exact .inl rfl
    | some y =>
      refine .inr (fun e => ?_)
      cases a with
      | none => cases e
      | some x => exact HN.out x y rfl rfl (by simpa [Value.ownBlock] using e.symm)
  have H1 := Lib.hid hm1
  have H2 := Lib.hid hc1
  have H3 := Lib.hid HC1
  clear hm1 hc1 HC1 hg1 hc0
  obtain ⟨p0, p1, p2, p3, -⟩ := B0.four
  go_wp2_with fail
  refine (IntS.mark_any base b cb m.C _ _ H3.out (by omega) (by omega)).mono ?_
  rintro e w2 ⟨rfl, hm2, hg2⟩
  have HA2 : OwnI w2 base (.slice a m.R.length ca) (markZ 1 m.R.length) := by
    refine World.ownsRow.kept H1.out hg2 ?_
    cases a with
    | none => exact .inl rfl
    | some x =>
      refine .inr (fun e => ?_)
      cases b with
      | none => cases e
      | some y => exact HN.out x y rfl rfl (by simpa [Value.ownBlock] using e)
  have H4 := Lib.hid (H2.out.trans (Chg.of_grown hg2 (fun k e => by
    cases b with
    | none => cases e
    | some x =>
      obtain rfl : x.block = k := by simpa [Value.ownBlock] using e
      exact ⟨(HL.out x rfl).1, HJ.out x rfl⟩)))
  have H5 := Lib.hid hm2
  have H6 := Lib.hid HA2
  clear hm2 HA2 hg2
  go_wp2
  go_ret
  exact ⟨rfl, H6.out, H5.out, H4.out⟩

end Go.Proofs.Ytfpfnnindlfgfaa.MapS
