/- The best order of a course: mathematics. -/
import Derived.Test.YtdfmfmndmldggaaKrM
namespace Go.Proofs.Ytdfmfmndmldggaa.KrD
open Go.RowKit Lb IntS CtK CoM CoP CoF LtI RouM KrM
open OpnI (opB opB_iff opB_of opB_yes askB askB_of)
set_option linter.unusedSimpArgs false
set_option linter.unusedVariables false

/-- Where there is a way, there is one back. -/
theorem tt_sym {m : Mp} {T : Nat → Nat → Int} (hT : TT m T) {ww hh i j : Nat} (g : GoodM m ww hh) (hi : Opn m (ww * hh) i) (hj : Opn m (ww * hh) j) (h : 0 ≤ T j i) : 0 ≤ T i j := by
  have tg : Tgt m ww hh j (T j) := ⟨g, hj, hT ww hh g j hj⟩
  obtain ⟨k, hk⟩ := best_ex tg h
  have al := RouM.along hT tg hi h hk
  have : ∀ q, q ≤ k → 0 ≤ T i (tr m (T j) i q) := by
    intro q
    induction q with
    | zero =>
      intro _
      show 0 ≤ T i i
      rw [tt_self g hT hi]
      exact Int.le_refl _
    | succ q ih =>
      intro hq
      have h1 := ih (by omega)
      have hc := al.opn q (by omega)
      have hd := al.opn (q + 1) hq
      have h2 := tt_one g hT hd (nx_sym g hc.1 hc.2 (al.nx q (by omega)))
      exact (tt_trans g hT hc hi h2.2.1 h1).1
  have h1 := this k (Nat.le_refl _)
  rwa [hk.2] at h1

/-- The time from a code to another one. -/
def DD (T : Nat → Nat → Int) (cs : List Ct) (x y : Int) : Int := T (ceA cs y).toNat (ceA cs x).toNat
theorem lg_dd (T : Nat → Nat → Int) (cs : List Ct) (zs : List Int) (l : Nat) : lgT T cs zs l = DD T cs (zAt zs l) (zAt zs (l + 1)) := rfl
theorem zAt_mem {zs : List Int} {i : Nat} (h : i < zs.length) : zAt zs i ∈ zs := by
  unfold zAt
  rw [List.getD_eq_getElem?_getD, List.getElem?_eq_getElem h]
  exact List.getElem_mem h
theorem mem_zAt {zs : List Int} {x : Int} (h : x ∈ zs) : ∃ i, i < zs.length ∧ zAt zs i = x := by
  obtain ⟨i, hi, e⟩ := List.mem_iff_getElem.1 h
  exact ⟨i, hi, by unfold zAt; rw [List.getD_eq_getElem?_getD, List.getElem?_eq_getElem hi]; exact e⟩
/-- From every code of a course there is a way to every other one. -/
theorem CsP.fnd {m : Mp} {T : Nat → Nat → Int} {cs : List Ct} {zs : List Int} (h : CsP m T cs zs) {x : Int} (hx : x ∈ zs) : 0 ≤ fiZ cs x := by
  obtain ⟨i, hi, rfl⟩ := mem_zAt hx
  exact h.2.2.1 i hi
theorem dd_le {m : Mp} {T : Nat → Nat → Int} (hT : TT m T) {cs : List Ct} (hg : goodB m cs = true) {x y : Int} (hy : 0 ≤ fiZ cs y) : -1 ≤ DD T cs x y ∧ DD T cs x y ≤ 972 := by
  obtain ⟨ww, hh, g⟩ := good_of (good_ok hg)
  obtain ⟨j, ej, oj⟩ := fnd_open g hg hy
  unfold DD
  rw [ej]
  exact tt_bd g hT oj _
theorem dd_self {m : Mp} {T : Nat → Nat → Int} (hT : TT m T) {cs : List Ct} (hg : goodB m cs = true) {x : Int} (hx : 0 ≤ fiZ cs x) : DD T cs x x = 0 := by
  obtain ⟨ww, hh, g⟩ := good_of (good_ok hg)
  obtain ⟨i, ei, oi⟩ := fnd_open g hg hx
  unfold DD
  rw [ei]
  exact tt_self g hT oi
theorem dd_sym {m : Mp} {T : Nat → Nat → Int} (hT : TT m T) {cs : List Ct} (hg : goodB m cs = true) {x y : Int} (hx : 0 ≤ fiZ cs x) (hy : 0 ≤ fiZ cs y) (h : 0 ≤ DD T cs x y) : 0 ≤ DD T cs y x := by
  obtain ⟨ww, hh, g⟩ := good_of (good_ok hg)
  obtain ⟨i, ei, oi⟩ := fnd_open g hg hx
  obtain ⟨j, ej, oj⟩ := fnd_open g hg hy
  unfold DD at h ⊢
  rw [ei, ej] at h
  rw [ei, ej]
  exact tt_sym hT g oi oj h
theorem dd_trans {m : Mp} {T : Nat → Nat → Int} (hT : TT m T) {cs : List Ct} (hg : goodB m cs = true) {x y z : Int} (hx : 0 ≤ fiZ cs x) (hy : 0 ≤ fiZ cs y) (hz : 0 ≤ fiZ cs z) (h1 : 0 ≤ DD T cs x y) (h2 : 0 ≤ DD T cs y z) : 0 ≤ DD T cs x z := by
  obtain ⟨ww, hh, g⟩ := good_of (good_ok hg)
  obtain ⟨i, ei, oi⟩ := fnd_open g hg hx
  obtain ⟨j, ej, oj⟩ := fnd_open g hg hy
  obtain ⟨k, ek, ok⟩ := fnd_open g hg hz
  unfold DD at h1 h2 ⊢
  rw [ei, ej] at h1
  rw [ej, ek] at h2
  rw [ei, ek]
  exact (tt_trans g hT oj ok h1 h2).1
theorem CsP.up {m : Mp} {T : Nat → Nat → Int} (hT : TT m T) {cs : List Ct} {zs : List Int} (h : CsP m T cs zs) {i : Nat} : ∀ d, i + d < zs.length → 0 ≤ DD T cs (zAt zs i) (zAt zs (i + d))
  | 0, hd => by rw [Nat.add_zero, dd_self hT h.1 (h.2.2.1 i hd)]; exact Int.le_refl _
  | d + 1, hd => dd_trans hT h.1 (h.2.2.1 i (by omega)) (h.2.2.1 (i + d) (by omega)) (h.2.2.1 (i + (d + 1)) hd) (CsP.up hT h d (by omega)) (h.2.2.2 (i + d) (by omega)).2
theorem CsP.dd {m : Mp} {T : Nat → Nat → Int} (hT : TT m T) {cs : List Ct} {zs : List Int} (h : CsP m T cs zs) {x y : Int} (hx : x ∈ zs) (hy : y ∈ zs) : 0 ≤ DD T cs x y ∧ DD T cs x y ≤ 972 := by
  refine ⟨?_, (dd_le hT h.1 (CsP.fnd h hy)).2⟩
  obtain ⟨i, hi, rfl⟩ := mem_zAt hx
  obtain ⟨j, hj, rfl⟩ := mem_zAt hy
  rcases Nat.le_total i j with hij | hij
  · have := CsP.up hT h (i := i) (j - i) (by omega)
    rwa [show i + (j - i) = j by omega] at this
  · have := CsP.up hT h (i := j) (i - j) (by omega)
    rw [show j + (i - j) = i by omega] at this
    exact dd_sym hT h.1 (h.2.2.1 j hj) (h.2.2.1 i hi) this

/-- The time of a list of codes, from one on. -/
def ptT (D : Int → Int → Int) : Int → List Int → Int
  | _, [] => 0
  | c, x :: r => D c x + ptT D x r
theorem pt_app (D : Int → Int → Int) : ∀ (c : Int) (a : List Int) (x : Int) (b : List Int), ptT D c (a ++ x :: b) = ptT D c (a ++ [x]) + ptT D x b
  | c, [], x, b => by simp [ptT]
  | c, y :: a, x, b => by rw [List.cons_append, List.cons_append, ptT, ptT, pt_app D y a x b]; omega
theorem seq_shift (f : Nat → Int) (n : Nat) : smZ (seqL f (n + 1)) = f 0 + smZ (seqL (fun i => f (i + 1)) n) := by
  unfold seqL
  rw [List.range_succ_eq_map, List.map_cons, smZ, List.map_map]
  rfl
theorem zAt_cons (x : Int) (r : List Int) (i : Nat) : zAt (x :: r) (i + 1) = zAt r i := by unfold zAt; simp
theorem sm_pt (T : Nat → Nat → Int) (cs : List Ct) : ∀ (x : Int) (r : List Int), smZ (seqL (lgT T cs (x :: r)) r.length) = ptT (DD T cs) x r
  | x, [] => by simp [seqL, smZ, ptT]
  | x, y :: r => by
    rw [List.length_cons, seq_shift, ptT, ← sm_pt T cs y r]
    congr 1
/-- The first of the least ones. -/
def pkR (c : Nat → List Int × Int) : Nat → List Int × Int
  | 0 => ([], 0)
  | 1 => c 0
  | k + 2 => if (c (k + 1)).2 < (pkR c (k + 1)).2 then c (k + 1) else pkR c (k + 1)
theorem pk_is (c : Nat → List Int × Int) : ∀ k, ∃ j, j < k + 1 ∧ pkR c (k + 1) = c j
  | 0 => ⟨0, by omega, rfl⟩
  | k + 1 => by
    rw [pkR]
    split
    · exact ⟨k + 1, by omega, rfl⟩
    · obtain ⟨j, h1, h2⟩ := pk_is c k
      exact ⟨j, by omega, h2⟩
theorem pk_le (c : Nat → List Int × Int) : ∀ k j, j < k + 1 → (pkR c (k + 1)).2 ≤ (c j).2
  | 0, j, h => by
    obtain rfl : j = 0 := by omega
    exact Int.le_refl _
  | k + 1, j, h => by
    rw [pkR]
    split
    · rename_i h1
      rcases Nat.lt_or_ge j (k + 1) with h2 | h2
      · have := pk_le c k j h2
        omega
      · obtain rfl : j = k + 1 := by omega
        exact Int.le_refl _
    · rename_i h1
      rcases Nat.lt_or_ge j (k + 1) with h2 | h2
      · exact pk_le c k j h2
      · obtain rfl : j = k + 1 := by omega
        omega
/-- The best way to go on by some codes to the last one, and its time. -/
def bw (D : Int → Int → Int) : Nat → Int → List Int → Int → List Int × Int
  | 0, c, _, f => ([f], D c f)
  | n + 1, c, l, f => pkR (fun k => (zAt l k :: (bw D n (zAt l k) (l.eraseIdx k) f).1, D c (zAt l k) + (bw D n (zAt l k) (l.eraseIdx k) f).2)) (n + 1)
theorem bw_time (D : Int → Int → Int) : ∀ (n : Nat) (c : Int) (l : List Int) (f : Int), (bw D n c l f).2 = ptT D c (bw D n c l f).1
  | 0, c, l, f => by simp [bw, ptT]
  | n + 1, c, l, f => by
    rw [bw]
    obtain ⟨j, hj, e⟩ := pk_is (fun k => (zAt l k :: (bw D n (zAt l k) (l.eraseIdx k) f).1, D c (zAt l k) + (bw D n (zAt l k) (l.eraseIdx k) f).2)) n
    rw [e]
    show D c (zAt l j) + (bw D n (zAt l j) (l.eraseIdx j) f).2 = ptT D c (zAt l j :: (bw D n (zAt l j) (l.eraseIdx j) f).1)
    rw [ptT, bw_time D n]
theorem erase_perm {l : List Int} {j : Nat} (h : j < l.length) : (zAt l j :: l.eraseIdx j).Perm l := by
  induction l generalizing j with
  | nil => exact absurd h (Nat.not_lt_zero _)
  | cons x r ih =>
    cases j with
    | zero => exact List.Perm.refl _
    | succ j =>
      rw [zAt_cons, List.eraseIdx_cons_succ]
      exact (List.Perm.swap _ _ _).trans ((ih (by simpa using h)).cons x)
theorem bw_perm (D : Int → Int → Int) : ∀ (n : Nat) (c : Int) (l : List Int) (f : Int), l.length = n → ∃ p, (bw D n c l f).1 = p ++ [f] ∧ p.Perm l
  | 0, c, l, f, h => by
    obtain rfl : l = [] := List.eq_nil_of_length_eq_zero h
    exact ⟨[], rfl, List.Perm.refl _⟩
  | n + 1, c, l, f, h => by
    rw [bw]
    obtain ⟨j, hj, e⟩ := pk_is (fun k => (zAt l k :: (bw D n (zAt l k) (l.eraseIdx k) f).1, D c (zAt l k) + (bw D n (zAt l k) (l.eraseIdx k) f).2)) n
    rw [e]
    obtain ⟨p, h1, h2⟩ := bw_perm D n (zAt l j) (l.eraseIdx j) f (by rw [List.length_eraseIdx_of_lt (by omega)]; omega)
    refine ⟨zAt l j :: p, ?_, (h2.cons _).trans (erase_perm (by omega))⟩
    show zAt l j :: (bw D n (zAt l j) (l.eraseIdx j) f).1 = _
    rw [h1]
    rfl
theorem bw_len (D : Int → Int → Int) {n : Nat} (c : Int) {l : List Int} (f : Int) (h : l.length = n) : (bw D n c l f).1.length = n + 1 := by
  obtain ⟨p, h1, h2⟩ := bw_perm D n c l f h
  rw [h1, List.length_append, h2.length_eq, h]
  rfl
theorem bw_least (D : Int → Int → Int) : ∀ (n : Nat) (c : Int) (l : List Int) (f : Int), l.length = n → ∀ p : List Int, p.Perm l → (bw D n c l f).2 ≤ ptT D c (p ++ [f])
  | 0, c, l, f, h, p, hp => by
    obtain rfl : l = [] := List.eq_nil_of_length_eq_zero h
    obtain rfl : p = [] := hp.eq_nil
    simp [bw, ptT]
  | n + 1, c, l, f, h, p, hp => by
    obtain ⟨x, r, rfl⟩ : ∃ x r, p = x :: r := by
      cases p with
      | nil => have := hp.length_eq; simp at this; omega
      | cons x r => exact ⟨x, r, rfl⟩
    obtain ⟨j, hj, hx⟩ := mem_zAt (hp.mem_iff.1 List.mem_cons_self)
    have hr : r.Perm (l.eraseIdx j) := by
      have h1 : (x :: r).Perm (x :: l.eraseIdx j) := by rw [← hx] at hp ⊢; exact hp.trans (erase_perm hj).symm
      exact (List.perm_cons x).1 h1
    have h2 := bw_least D n x (l.eraseIdx j) f (by rw [List.length_eraseIdx_of_lt hj]; omega) r hr
    rw [List.cons_append, ptT, bw]
    have h3 := pk_le (fun k => (zAt l k :: (bw D n (zAt l k) (l.eraseIdx k) f).1, D c (zAt l k) + (bw D n (zAt l k) (l.eraseIdx k) f).2)) n j (by omega)
    refine Int.le_trans h3 ?_
    show D c (zAt l j) + (bw D n (zAt l j) (l.eraseIdx j) f).2 ≤ _
    rw [hx]
    omega
/-- Strictly ascending lists with the same members are one. -/
theorem asc_same : ∀ {a b : List Int}, a.Pairwise (· < ·) → b.Pairwise (· < ·) → (∀ x, x ∈ a ↔ x ∈ b) → a = b
  | [], [], _, _, _ => rfl
  | [], y :: b, _, _, h => by have := (h y).2 List.mem_cons_self; cases this
  | x :: a, [], _, _, h => by have := (h x).1 List.mem_cons_self; cases this
  | x :: a, y :: b, ha, hb, h => by
    rw [List.pairwise_cons] at ha hb
    have hxy : x = y := by
      rcases List.mem_cons.1 ((h x).1 List.mem_cons_self) with e | e
      · exact e
      · rcases List.mem_cons.1 ((h y).2 List.mem_cons_self) with e2 | e2
        · exact e2.symm
        · have h1 := hb.1 x e
          have h2 := ha.1 y e2
          omega
    subst hxy
    rw [asc_same ha.2 hb.2 fun z => ?_]
    constructor
    · intro hz
      have h1 := ha.1 z hz
      rcases List.mem_cons.1 ((h z).1 (List.mem_cons_of_mem _ hz)) with e | e
      · omega
      · exact e
    · intro hz
      have h1 := hb.1 z hz
      rcases List.mem_cons.1 ((h z).2 (List.mem_cons_of_mem _ hz)) with e | e
      · omega
      · exact e
end Go.Proofs.Ytdfmfmndmldggaa.KrD
