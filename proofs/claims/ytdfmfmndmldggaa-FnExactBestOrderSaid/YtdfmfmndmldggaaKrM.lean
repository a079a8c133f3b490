/- Courses: mathematics. -/
import Derived.Test.YtdfmfmndmldggaaRouA
import Derived.Test.YtdfmfmndmldggaaBstS
import Derived.Test.YtdfmfmndmldggaaTibT
import Derived.Test.YtdfmfmndmldggaaTibC
import Derived.Test.YtdfmfmndmldggaaCoC
namespace Go.Proofs.Ytdfmfmndmldggaa.KrM
open Go.RowKit Lb IntS CtK CoM CoP CoF LtI RouM
open OpnI (opB opB_iff opB_of opB_yes askB askB_of)
open Cells (NPost)
set_option linter.unusedSimpArgs false
set_option linter.unusedVariables false

/-- The control with a code, and its cell. -/
def ctA (cs : List Ct) (x : Int) : Ct := at_ cs (fiZ cs x).toNat
def ceA (cs : List Ct) (x : Int) : Int := (ctA cs x).ce
def Fnd (cs : List Ct) (zs : List Int) (i : Nat) : Prop := 0 ≤ fiZ cs (zAt zs i)
def LegP (T : Nat → Nat → Int) (cs : List Ct) (zs : List Int) (l : Nat) : Prop := zAt zs l ≠ zAt zs (l + 1) ∧ 0 ≤ T (ceA cs (zAt zs (l + 1))).toNat (ceA cs (zAt zs l)).toNat
instance (cs : List Ct) (zs : List Int) (i : Nat) : Decidable (Fnd cs zs i) := by unfold Fnd; infer_instance
instance (T : Nat → Nat → Int) (cs : List Ct) (zs : List Int) (l : Nat) : Decidable (LegP T cs zs l) := by unfold LegP; infer_instance
/-- What a course is. -/
def CsP (m : Mp) (T : Nat → Nat → Int) (cs : List Ct) (zs : List Int) : Prop := goodB m cs = true ∧ (2 ≤ zs.length ∧ zs.length ≤ 8) ∧ (∀ i, i < zs.length → Fnd cs zs i) ∧ ∀ l, l < zs.length - 1 → LegP T cs zs l
instance (m : Mp) (T : Nat → Nat → Int) (cs : List Ct) (zs : List Int) : Decidable (CsP m T cs zs) := by unfold CsP; infer_instance
def csB (m : Mp) (T : Nat → Nat → Int) (cs : List Ct) (zs : List Int) : Bool := decide (CsP m T cs zs)
theorem cs_iff {m : Mp} {T : Nat → Nat → Int} {cs : List Ct} {zs : List Int} : csB m T cs zs = true ↔ CsP m T cs zs := by unfold csB; simp
theorem cs_bad {m : Mp} {T : Nat → Nat → Int} {cs : List Ct} {zs : List Int} (h : goodB m cs = false) : csB m T cs zs = false := decide_eq_false fun g => by have := g.1; rw [h] at this; cases this
theorem cs_len {m : Mp} {T : Nat → Nat → Int} {cs : List Ct} {zs : List Int} (h : ¬ (2 ≤ zs.length ∧ zs.length ≤ 8)) : csB m T cs zs = false := decide_eq_false fun g => h g.2.1
theorem cs_nofnd {m : Mp} {T : Nat → Nat → Int} {cs : List Ct} {zs : List Int} {i : Nat} (hi : i < zs.length) (h : ¬ Fnd cs zs i) : csB m T cs zs = false := decide_eq_false fun g => h (g.2.2.1 i hi)
theorem cs_noleg {m : Mp} {T : Nat → Nat → Int} {cs : List Ct} {zs : List Int} {l : Nat} (hl : l < zs.length - 1) (h : ¬ LegP T cs zs l) : csB m T cs zs = false := decide_eq_false fun g => h (g.2.2.2 l hl)
theorem cs_all {m : Mp} {T : Nat → Nat → Int} {cs : List Ct} {zs : List Int} (h1 : goodB m cs = true) (h2 : 2 ≤ zs.length ∧ zs.length ≤ 8) (h3 : ∀ i, i < zs.length → Fnd cs zs i) (h4 : ∀ l, l < zs.length - 1 → LegP T cs zs l) : csB m T cs zs = true := decide_eq_true ⟨h1, h2, h3, h4⟩

/-- A code that is found. -/
theorem fnd_at {cs : List Ct} {x : Int} (h : 0 ≤ fiZ cs x) : (fiZ cs x).toNat < cs.length ∧ (ctA cs x).co = x := by
  rcases fi_cases cs x with h1 | ⟨k, h1, h2, h3⟩
  · omega
  · unfold ctA
    rw [h1, Int.toNat_natCast]
    exact ⟨h2, h3⟩
/-- Its cell is open. -/
theorem fnd_open {m : Mp} {cs : List Ct} {ww hh : Nat} (g : GoodM m ww hh) (h : goodB m cs = true) {x : Int} (hx : 0 ≤ fiZ cs x) : ∃ c : Nat, ceA cs x = (c : Int) ∧ Opn m (ww * hh) c := opB_of g (good_open h (fnd_at hx).1)
/-- Codes that differ stand in other cells. -/
theorem ce_ne {m : Mp} {cs : List Ct} (h : goodB m cs = true) {x y : Int} (hx : 0 ≤ fiZ cs x) (hy : 0 ≤ fiZ cs y) (hne : x ≠ y) : ceA cs x ≠ ceA cs y := by
  obtain ⟨h1, h2⟩ := fnd_at hx
  obtain ⟨h3, h4⟩ := fnd_at hy
  intro e
  rcases Nat.lt_trichotomy (fiZ cs x).toNat (fiZ cs y).toNat with h5 | h5 | h5
  · exact good_ne h h3 h5 e
  · apply hne
    rw [← h2, ← h4]
    unfold ctA
    rw [h5]
  · exact good_ne h h1 h5 e.symm

/-- The time of a leg; all of them; the sum of numbers. -/
def lgT (T : Nat → Nat → Int) (cs : List Ct) (zs : List Int) (l : Nat) : Int := T (ceA cs (zAt zs (l + 1))).toNat (ceA cs (zAt zs l)).toNat
def seqL (f : Nat → Int) (n : Nat) : List Int := (List.range n).map f
theorem seq_len (f : Nat → Int) (n : Nat) : (seqL f n).length = n := by simp [seqL]
theorem seq_at (f : Nat → Int) {n i : Nat} (h : i < n) : zAt (seqL f n) i = f i := by simp [seqL, zAt, h]
theorem seq_next (f : Nat → Int) (n : Nat) : seqL f (n + 1) = seqL f n ++ [f n] := by unfold seqL; rw [List.range_succ, List.map_append]; rfl
def tmL (T : Nat → Nat → Int) (cs : List Ct) (zs : List Int) : List Int := seqL (lgT T cs zs) (zs.length - 1)
def smZ : List Int → Int
  | [] => 0
  | z :: r => z + smZ r
theorem sm_app (a b : List Int) : smZ (a ++ b) = smZ a + smZ b := by
  induction a with
  | nil => simp [smZ]
  | cons x r ih => rw [List.cons_append, smZ, smZ, ih]; omega
theorem sm_take {zs : List Int} {k : Nat} (h : k < zs.length) : smZ (zs.take (k + 1)) = smZ (zs.take k) + zAt zs k := by
  rw [zAt_take zs k h, sm_app]
  simp [smZ]
theorem sm_bd {zs : List Int} {B : Int} (hB : 0 ≤ B) (h : ∀ i, i < zs.length → 0 ≤ zAt zs i ∧ zAt zs i ≤ B) : ∀ k, k ≤ zs.length → 0 ≤ smZ (zs.take k) ∧ smZ (zs.take k) ≤ B * k
  | 0, _ => by simp [smZ]
  | k + 1, hk => by
    have ih := sm_bd hB h k (by omega)
    have h1 := h k (by omega)
    rw [sm_take (by omega)]
    have : B * ((k + 1 : Nat) : Int) = B * k + B := by rw [Int.natCast_add, Int.mul_add]; simp
    omega

/-- The best route between two cells. -/
noncomputable def rtZ (m : Mp) (T : Nat → Nat → Int) (p q : Int) : List Int := by
  classical exact if h : ∃ k, Best m (T q.toNat) p.toNat q.toNat k then ints (rt m (T q.toNat) p.toNat (Classical.choose h)) else []
theorem rtz_best {m : Mp} {T : Nat → Nat → Int} {i j k : Nat} (h : Best m (T j) i j k) : rtZ m T (i : Nat) (j : Nat) = ints (rt m (T j) i k) := by
  unfold rtZ
  rw [Int.toNat_natCast, Int.toNat_natCast]
  have hx : ∃ k, Best m (T j) i j k := ⟨k, h⟩
  rw [dif_pos hx, (Classical.choose_spec hx).unique h]
noncomputable def brZ (m : Mp) (T : Nat → Nat → Int) (p q : Int) : List Int := if ltB m T p q then rtZ m T p q else []
/-- BestRoute: what both texts answer. -/
theorem best_br (m : Mp) (T : Nat → Nat → Int) (hT : TT m T) (p q : Int) : (brZ m T p q).length ≤ 1000 ∧
    (∀ a b ca cb w, m.R.length ≤ maxLen → m.C.length ≤ maxLen → IRow w a m.R → IRow w b m.C → Calls Try.prog 90 #[.agg #[.int .i64 m.W, .int .i64 m.H, .slice a m.R.length ca, .slice b m.C.length cb], .int .i64 p, .int .i64 q] w (NPost w (brZ m T p q) (ltB m T p q))) := by
  obtain ⟨zs, ok, h1, h2, h3, h4, h5⟩ := BstS.bothI m T hT p q
  have e : brZ m T p q = zs := by
    unfold brZ
    cases ok with
    | false => rw [← h2, h3 rfl]; rfl
    | true =>
      obtain ⟨ww, hh, i, j, k, rfl, rfl, hi, tg, h0, hb, rfl⟩ := h4 rfl
      rw [← h2, rtz_best hb]
      rfl
  rw [e, ← h2]
  exact ⟨h1, h5⟩

/-- A leg that is right. -/
structure Leg (m : Mp) (T : Nat → Nat → Int) (cs : List Ct) (zs : List Int) (l ww hh i j k : Nat) : Prop where
  g : GoodM m ww hh
  ei : ceA cs (zAt zs l) = (i : Int)
  ej : ceA cs (zAt zs (l + 1)) = (j : Int)
  oi : Opn m (ww * hh) i
  tg : Tgt m ww hh j (T j)
  ne : i ≠ j
  ge : 0 ≤ T j i
  le : T j i ≤ 972
  best : Best m (T j) i j k
  pos : 1 ≤ k
  top : k ≤ 972
theorem leg_of {m : Mp} {T : Nat → Nat → Int} (hT : TT m T) {cs : List Ct} {zs : List Int} {ww hh : Nat} (g : GoodM m ww hh) (hg : goodB m cs = true) {l : Nat} (h1 : Fnd cs zs l) (h2 : Fnd cs zs (l + 1)) (h : LegP T cs zs l) : ∃ i j k, Leg m T cs zs l ww hh i j k := by
  obtain ⟨i, ei, oi⟩ := fnd_open g hg h1
  obtain ⟨j, ej, oj⟩ := fnd_open g hg h2
  have h0 := h.2
  rw [ei, ej, Int.toNat_natCast, Int.toNat_natCast] at h0
  have tg : Tgt m ww hh j (T j) := ⟨g, oj, hT ww hh g j oj⟩
  obtain ⟨k, hk⟩ := best_ex tg h0
  have h5 := tt_bd g hT oj i
  have hne : i ≠ j := by
    rintro rfl
    exact ce_ne hg h1 h2 h.1 (by rw [ei, ej])
  refine ⟨i, j, k, g, ei, ej, oi, tg, hne, h0, h5.2, hk, ?_, ?_⟩
  · rcases Nat.eq_zero_or_pos k with e | e
    · subst e
      exact absurd hk.2 hne
    · exact e
  · have h3 := hk.1.sum
    have h4 := hk.1.pos
    omega
/-- Whether there is a route from one cell to the next is what BestRoute tells. -/
theorem leg_lt {m : Mp} {T : Nat → Nat → Int} {cs : List Ct} {zs : List Int} {ww hh : Nat} (g : GoodM m ww hh) (hg : goodB m cs = true) {l : Nat} (h1 : Fnd cs zs l) (h2 : Fnd cs zs (l + 1)) : ltB m T (ceA cs (zAt zs l)) (ceA cs (zAt zs (l + 1))) = decide (0 ≤ lgT T cs zs l) := by
  obtain ⟨i, ei, oi⟩ := fnd_open g hg h1
  obtain ⟨j, ej, oj⟩ := fnd_open g hg h2
  unfold ltB lgT
  rw [ei, ej, ask_split g oi oj]
  rfl
/-- The route of a leg. -/
noncomputable def lgR (m : Mp) (T : Nat → Nat → Int) (cs : List Ct) (zs : List Int) (l : Nat) : List Int := rtZ m T (ceA cs (zAt zs l)) (ceA cs (zAt zs (l + 1)))
theorem Leg.rte {m : Mp} {T : Nat → Nat → Int} {cs : List Ct} {zs : List Int} {l ww hh i j k : Nat} (h : Leg m T cs zs l ww hh i j k) : lgR m T cs zs l = ints (rt m (T j) i k) := by
  unfold lgR
  rw [h.ei, h.ej, rtz_best h.best]
theorem Leg.time {m : Mp} {T : Nat → Nat → Int} {cs : List Ct} {zs : List Int} {l ww hh i j k : Nat} (h : Leg m T cs zs l ww hh i j k) : lgT T cs zs l = T j i := by
  unfold lgT
  rw [h.ei, h.ej]
  rfl
theorem Leg.br {m : Mp} {T : Nat → Nat → Int} {cs : List Ct} {zs : List Int} {l ww hh i j k : Nat} (h : Leg m T cs zs l ww hh i j k) : brZ m T (ceA cs (zAt zs l)) (ceA cs (zAt zs (l + 1))) = lgR m T cs zs l ∧ ltB m T (ceA cs (zAt zs l)) (ceA cs (zAt zs (l + 1))) = true := by
  have e : ltB m T (ceA cs (zAt zs l)) (ceA cs (zAt zs (l + 1))) = true := by
    rw [h.ei, h.ej]
    exact (lt_yes (ask_split h.g h.oi h.tg.ho) h.ge).1
  refine ⟨?_, e⟩
  unfold brZ lgR
  rw [e]
  rfl
theorem Leg.len {m : Mp} {T : Nat → Nat → Int} {cs : List Ct} {zs : List Int} {l ww hh i j k : Nat} (h : Leg m T cs zs l ww hh i j k) : (lgR m T cs zs l).length = k + 1 := by rw [h.rte, len_rt]
/-- Its time and its climb, as RouteTime and RouteClimb tell them. -/
theorem Leg.along {m : Mp} {T : Nat → Nat → Int} (hT : TT m T) {cs : List Ct} {zs : List Int} {l ww hh i j k : Nat} (h : Leg m T cs zs l ww hh i j k) : RtI.rtB m (lgR m T cs zs l) = true ∧ okB m = true ∧ TibT.aB m (lgR m T cs zs l) = true ∧ TibT.aN m (lgR m T cs zs l) = lgT T cs zs l ∧ TibC.aB m (lgR m T cs zs l) = true := by
  have al := RouM.along hT h.tg h.oi h.ge h.best
  have hrt := al.route h.g
  have hokB : okB m = true := okB_yes (ok_of h.g)
  rw [h.rte, h.time]
  have haB : TibT.aB m (ints (rt m (T j) i k)) = true := by unfold TibT.aB; rw [hokB, hrt]; rfl
  refine ⟨hrt, hokB, haB, ?_, ?_⟩
  · rw [TibT.a_yes (n := k) haB (len_rt _ _ _ _), al.tot]
  · unfold TibC.aB; rw [hokB, hrt]; rfl

theorem CsP.leg {m : Mp} {T : Nat → Nat → Int} (hT : TT m T) {cs : List Ct} {zs : List Int} (h : CsP m T cs zs) {l : Nat} (hl : l < zs.length - 1) : ∃ ww hh i j k, Leg m T cs zs l ww hh i j k := by
  obtain ⟨ww, hh, g⟩ := good_of (good_ok h.1)
  exact ⟨ww, hh, leg_of hT g h.1 (h.2.2.1 l (by omega)) (h.2.2.1 (l + 1) (by omega)) (h.2.2.2 l hl)⟩
theorem CsP.tm {m : Mp} {T : Nat → Nat → Int} (hT : TT m T) {cs : List Ct} {zs : List Int} (h : CsP m T cs zs) {l : Nat} (hl : l < zs.length - 1) : 0 ≤ lgT T cs zs l ∧ lgT T cs zs l ≤ 972 := by
  obtain ⟨ww, hh, i, j, k, L⟩ := h.leg hT hl
  rw [L.time]
  exact ⟨L.ge, L.le⟩
end Go.Proofs.Ytdfmfmndmldggaa.KrM
