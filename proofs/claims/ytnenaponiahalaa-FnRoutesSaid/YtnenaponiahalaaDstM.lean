/- Times of routes: plain lemmas. -/
import Derived.Test.YtnenaponiahalaaPartM
namespace Go.Proofs.Ytnenaponiahalaa.Lb
open Go.RowKit
set_option linter.unusedVariables false

/-- A way that grows at its end, and its time. -/
inductive Wg (m : Mp) (wt : Nat → Nat → Int) (s : Nat) : Nat → Int → Prop
  | here : Wg m wt s s 0
  | next {x y : Nat} {t : Int} : Wg m wt s x t → y ∈ nx m x → Wg m wt s y (t + wt x y)

/-- What a step may take. -/
def Wts (m : Mp) (n : Nat) (wt : Nat → Nat → Int) : Prop := ∀ x y, Opn m n x → y ∈ nx m x → 1 ≤ wt x y ∧ wt x y ≤ 27

theorem stp_bd {m : Mp} {w h : Nat} (g : GoodM m w h) {x y : Nat} (hx : x < w * h) (hy : Opn m (w * h) y) : 1 ≤ stp m x y ∧ stp m x y ≤ 27 := by
  have h1 := g.cell x hx
  have h2 := g.cell y hy.1
  have h3 := hy.2
  unfold CellOk at h1 h2
  unfold stp
  split
  · omega
  · split <;> omega
theorem wts_from {m : Mp} {w h : Nat} (g : GoodM m w h) : Wts m (w * h) (stp m) := fun x y hx hy => stp_bd g hx.1 (nx_lt g hx.1 hy)
theorem wts_to {m : Mp} {w h : Nat} (g : GoodM m w h) : Wts m (w * h) (fun x y => stp m y x) := fun x y hx hy => stp_bd g (nx_lt g hx.1 hy).1 hx

theorem Wg.rch {m : Mp} {wt : Nat → Nat → Int} {s y : Nat} {t : Int} (h : Wg m wt s y t) : Rch m s y := by
  induction h with
  | here => exact .here
  | next _ hy ih => exact .next ih hy
theorem Wg.of_rch {m : Mp} {wt : Nat → Nat → Int} {s y : Nat} (h : Rch m s y) : ∃ t, Wg m wt s y t := by
  induction h with
  | here => exact ⟨0, .here⟩
  | next _ hy ih => obtain ⟨t, ht⟩ := ih; exact ⟨_, .next ht hy⟩
theorem Wg.opn {m : Mp} {w h : Nat} (g : GoodM m w h) {wt : Nat → Nat → Int} {s y : Nat} {t : Int} (hs : Opn m (w * h) s) (hw : Wg m wt s y t) : Opn m (w * h) y := hw.rch.opn g hs
theorem Wg.pos {m : Mp} {w h : Nat} (g : GoodM m w h) {wt : Nat → Nat → Int} {s y : Nat} {t : Int} (hs : Opn m (w * h) s) (hb : Wts m (w * h) wt) (hw : Wg m wt s y t) : 0 ≤ t ∧ (y = s ∨ 1 ≤ t) := by
  induction hw with
  | here => exact ⟨Int.le_refl _, .inl rfl⟩
  | next h1 hy ih =>
    have := hb _ _ (h1.opn g hs) hy
    exact ⟨by omega, .inr (by omega)⟩
theorem Wg.trans {m : Mp} {wt : Nat → Nat → Int} {s x y : Nat} {t u : Int} (h1 : Wg m wt s x t) (h2 : Wg m wt x y u) : Wg m wt s y (t + u) := by
  induction h2 with
  | here => rw [Int.add_zero]; exact h1
  | next _ hy ih => rw [← Int.add_assoc]; exact .next ih hy
theorem Wg.one {m : Mp} {wt : Nat → Nat → Int} {s x : Nat} (h : x ∈ nx m s) : Wg m wt s x (wt s x) := by
  have := Wg.next (wt := wt) (s := s) .here h
  rwa [Int.zero_add] at this
theorem Wg.cons {m : Mp} {wt : Nat → Nat → Int} {s x y : Nat} {t : Int} (h : x ∈ nx m s) (h2 : Wg m wt x y t) : Wg m wt s y (wt s x + t) := (Wg.one h).trans h2
theorem Wg.back {m : Mp} {w h : Nat} (g : GoodM m w h) {wt wt' : Nat → Nat → Int} (he : ∀ x y, wt' y x = wt x y) {s y : Nat} {t : Int} (hs : Opn m (w * h) s) (hw : Wg m wt s y t) : Wg m wt' y s t := by
  induction hw with
  | here => exact .here
  | next h1 hy ih =>
    have ho := h1.opn g hs
    have := Wg.cons (nx_sym g ho.1 ho.2 hy) ih
    rw [he, Int.add_comm] at this
    exact this
/-- The last step of a way that is no empty one; and its first one. -/
theorem Wg.first {m : Mp} {wt : Nat → Nat → Int} {s y : Nat} {t : Int} (h : Wg m wt s y t) : (y = s ∧ t = 0) ∨ ∃ x u, x ∈ nx m s ∧ Wg m wt x y u ∧ t = wt s x + u := by
  induction h with
  | here => exact .inl ⟨rfl, rfl⟩
  | next h1 hy ih =>
    rename_i x y t
    rcases ih with ⟨rfl, rfl⟩ | ⟨z, u, hz, hw, e⟩
    · exact .inr ⟨y, 0, hy, .here, by omega⟩
    · exact .inr ⟨z, _, hz, .next hw hy, by omega⟩

def Lst (m : Mp) (wt : Nat → Nat → Int) (s y : Nat) (t : Int) : Prop := Wg m wt s y t ∧ ∀ k, Wg m wt s y k → t ≤ k
theorem Lst.unique {m : Mp} {wt : Nat → Nat → Int} {s y : Nat} {t u : Int} (h1 : Lst m wt s y t) (h2 : Lst m wt s y u) : t = u := by
  have := h1.2 _ h2.1
  have := h2.2 _ h1.1
  omega
theorem lst_ex {m : Mp} {w h : Nat} (g : GoodM m w h) {wt : Nat → Nat → Int} {s y : Nat} (hs : Opn m (w * h) s) (hb : Wts m (w * h) wt) :
    ∀ (k : Nat) (t : Int), t ≤ k → Wg m wt s y t → ∃ u, Lst m wt s y u
  | 0, t, hk, hw => ⟨t, hw, fun k hk' => by have := (hk'.pos g hs hb).1; omega⟩
  | k + 1, t, hk, hw => by
    by_cases hc : ∃ u, Wg m wt s y u ∧ u < t
    · obtain ⟨u, hu, hlt⟩ := hc
      exact lst_ex g hs hb k u (by omega) hu
    · refine ⟨t, hw, fun k hk' => ?_⟩
      by_cases hlt : k < t
      · exact absurd ⟨k, hk', hlt⟩ hc
      · omega

/-- The least times from a cell: -1 where there is no way. -/
def IsD (m : Mp) (wt : Nat → Nat → Int) (s : Nat) (D : Nat → Int) : Prop := ∀ y, (D y = -1 ∧ ∀ t, ¬ Wg m wt s y t) ∨ (0 ≤ D y ∧ Lst m wt s y (D y))
theorem IsD.unique {m : Mp} {wt : Nat → Nat → Int} {s : Nat} {D E : Nat → Int} (h1 : IsD m wt s D) (h2 : IsD m wt s E) : D = E := by
  funext y
  rcases h1 y with ⟨e1, n1⟩ | ⟨p1, l1⟩
  · rcases h2 y with ⟨e2, n2⟩ | ⟨p2, l2⟩
    · rw [e1, e2]
    · exact absurd l2.1 (n1 _)
  · rcases h2 y with ⟨e2, n2⟩ | ⟨p2, l2⟩
    · exact absurd l1.1 (n2 _)
    · exact l1.unique l2
theorem isD_ex {m : Mp} {w h : Nat} (g : GoodM m w h) {wt : Nat → Nat → Int} {s : Nat} (hs : Opn m (w * h) s) (hb : Wts m (w * h) wt) : ∃ D, IsD m wt s D := by
  have : ∀ y, ∃ d : Int, (d = -1 ∧ ∀ t, ¬ Wg m wt s y t) ∨ (0 ≤ d ∧ Lst m wt s y d) := by
    intro y
    by_cases hc : ∃ t, Wg m wt s y t
    · obtain ⟨t, ht⟩ := hc
      have hp := (ht.pos g hs hb).1
      obtain ⟨u, hu⟩ := lst_ex g hs hb t.toNat t (by omega) ht
      exact ⟨u, .inr ⟨(hu.1.pos g hs hb).1, hu⟩⟩
    · exact ⟨-1, .inl ⟨rfl, fun t ht => hc ⟨t, ht⟩⟩⟩
  exact ⟨fun y => (this y).choose, fun y => (this y).choose_spec⟩
theorem IsD.self {m : Mp} {w h : Nat} (g : GoodM m w h) {wt : Nat → Nat → Int} {s : Nat} (hs : Opn m (w * h) s) (hb : Wts m (w * h) wt) {D : Nat → Int} (hd : IsD m wt s D) : D s = 0 := by
  rcases hd s with ⟨_, n⟩ | ⟨p, l⟩
  · exact absurd .here (n 0)
  · have := l.2 0 .here
    omega
theorem IsD.opn {m : Mp} {w h : Nat} (g : GoodM m w h) {wt : Nat → Nat → Int} {s y : Nat} (hs : Opn m (w * h) s) {D : Nat → Int} (hd : IsD m wt s D) (hy : 0 ≤ D y) : Opn m (w * h) y := by
  rcases hd y with ⟨e, _⟩ | ⟨_, l⟩
  · omega
  · exact l.1.opn g hs
/-- Forth and back. -/
theorem IsD.swap {m : Mp} {w h : Nat} (g : GoodM m w h) {wt wt' : Nat → Nat → Int} (he : ∀ x y, wt' y x = wt x y) {s y : Nat} (hs : Opn m (w * h) s) (hy : Opn m (w * h) y) {D E : Nat → Int} (hd : IsD m wt s D) (hE : IsD m wt' y E) : D y = E s := by
  rcases hd y with ⟨e1, n1⟩ | ⟨p1, l1⟩
  · rcases hE s with ⟨e2, n2⟩ | ⟨p2, l2⟩
    · rw [e1, e2]
    · exact absurd (l2.1.back g (fun a b => (he b a).symm) hy) (n1 _)
  · rcases hE s with ⟨e2, n2⟩ | ⟨p2, l2⟩
    · exact absurd (l1.1.back g he hs) (n2 _)
    · have h1 := l1.2 _ (l2.1.back g (fun a b => (he b a).symm) hy)
      have h2 := l2.2 _ (l1.1.back g he hs)
      omega

/-! Sums over cells. -/
def sumN (f : Nat → Nat) : Nat → Nat
  | 0 => 0
  | n + 1 => sumN f n + f n
theorem sumN_same {f g : Nat → Nat} : ∀ {n : Nat}, (∀ i, i < n → g i = f i) → sumN g n = sumN f n
  | 0, _ => rfl
  | n + 1, h => by rw [sumN, sumN, sumN_same fun i hi => h i (by omega), h n (by omega)]
theorem sumN_upd {f g : Nat → Nat} {i : Nat} : ∀ {n : Nat}, i < n → (∀ j, j < n → j ≠ i → g j = f j) → sumN g n + f i = sumN f n + g i
  | 0, hi, _ => by omega
  | n + 1, hi, h => by
    rw [sumN, sumN]
    by_cases e : i = n
    · subst e
      rw [sumN_same fun j hj => h j (by omega) (by omega)]
      omega
    · have := sumN_upd (n := n) (by omega : i < n) fun j hj hji => h j (by omega) hji
      have := h n (by omega) (by omega)
      omega
theorem sumN_le {f : Nat → Nat} {c : Nat} (hc : ∀ i, f i ≤ c) : ∀ n, sumN f n ≤ c * n
  | 0 => by simp [sumN]
  | n + 1 => by
    have := sumN_le hc n
    have := hc n
    rw [sumN, Nat.mul_add]
    omega
theorem sumN_one {f : Nat → Nat} {i : Nat} : ∀ {n : Nat}, i < n → f i ≤ sumN f n
  | 0, h => by omega
  | n + 1, h => by
    rw [sumN]
    by_cases e : i = n
    · subst e; omega
    · have := sumN_one (f := f) (n := n) (by omega : i < n)
      omega
def one (b : Bool) : Nat := if b then 1 else 0
theorem one_le (b : Bool) : one b ≤ 1 := by cases b <;> decide
def cntB (sb : Nat → Bool) (n : Nat) : Nat := sumN (fun i => one (sb i)) n
theorem cntB_le (sb : Nat → Bool) (n : Nat) : cntB sb n ≤ n := by
  have := sumN_le (f := fun i => one (sb i)) (fun i => one_le _) n
  unfold cntB
  omega
theorem cntB_new {sb tb : Nat → Bool} {n c : Nat} (hc : c < n) (h0 : sb c = false) (h1 : tb c = true) (h : ∀ j, j ≠ c → tb j = sb j) : cntB tb n = cntB sb n + 1 := by
  have := sumN_upd (f := fun i => one (sb i)) (g := fun i => one (tb i)) hc fun j _ hj => by simp only [h j hj]
  simp only [h0, h1, one] at this
  unfold cntB one
  simpa using this

/-! The model's way: all cells are looked at until nothing becomes less. -/
def fin (x : Int) : Bool := decide (0 ≤ x)
def wgh (x : Int) : Nat := if x < 0 then 1000 else x.toNat
def mu (o : Nat → Int) (n : Nat) : Nat := sumN (fun i => wgh (o i)) n
def cnF (o : Nat → Int) (n : Nat) : Nat := cntB (fun i => fin (o i)) n
theorem cnF_eq (o : Nat → Int) (n : Nat) : cnF o n = sumN (fun i => one (fin (o i))) n := rfl
theorem cnF_le (o : Nat → Int) (n : Nat) : cnF o n ≤ n := cntB_le _ n
def upd (o : Nat → Int) (i : Nat) (v : Int) : Nat → Int := fun j => if j = i then v else o j
theorem upd_self (o : Nat → Int) (i : Nat) (v : Int) : upd o i v i = v := if_pos rfl
theorem upd_ne {o : Nat → Int} {i j : Nat} {v : Int} (h : j ≠ i) : upd o i v j = o j := if_neg h

structure Bf (m : Mp) (n : Nat) (wt : Nat → Nat → Int) (b : Nat) (o : Nat → Int) : Prop where
  val : ∀ i, i < n → o i = -1 ∨ (0 ≤ o i ∧ o i + 27 ≤ 27 * cnF o n ∧ Wg m wt b i (o i))
  home : o b = 0

theorem Bf.le {m : Mp} {n : Nat} {wt : Nat → Nat → Int} {b : Nat} {o : Nat → Int} (h : Bf m n wt b o) {i : Nat} (hi : i < n) : -1 ≤ o i ∧ o i + 27 ≤ 27 * (n : Int) := by
  have hc := cnF_le o n
  rcases h.val i hi with e | ⟨h1, h2, _⟩
  · omega
  · omega
theorem Bf.start {m : Mp} {n : Nat} {wt : Nat → Nat → Int} {b : Nat} (hb : b < n) : Bf m n wt b (upd (fun _ => -1) b 0) := by
  refine ⟨fun i hi => ?_, upd_self _ _ _⟩
  by_cases e : i = b
  · subst e
    right
    rw [upd_self]
    refine ⟨Int.le_refl _, ?_, .here⟩
    have h1 := sumN_one (f := fun j => one (fin (upd (fun _ => -1) i 0 j))) hb
    simp only [upd_self] at h1
    have h2 : one (fin 0) = 1 := by decide
    rw [cnF_eq]
    omega
  · left
    exact upd_ne e
/-- One cell becomes less. -/
theorem Bf.low {m : Mp} {w h : Nat} (g : GoodM m w h) {wt : Nat → Nat → Int} (hb : Wts m (w * h) wt) {b i x : Nat} {o : Nat → Int} (hbo : Opn m (w * h) b) (B : Bf m (w * h) wt b o) (hi : i < w * h) (hx : x < w * h) (hix : i ∈ nx m x) (h0 : 0 ≤ o x)
    (hlt : o i < 0 ∨ o x + wt x i < o i) : Bf m (w * h) wt b (upd o i (o x + wt x i)) ∧ mu (upd o i (o x + wt x i)) (w * h) < mu o (w * h) := by
  obtain ⟨hx1, hx2, hx3⟩ : 0 ≤ o x ∧ o x + 27 ≤ 27 * cnF o (w * h) ∧ Wg m wt b x (o x) := by
    rcases B.val x hx with e | h
    · omega
    · exact h
  have hw := hb x i (hx3.opn g hbo) hix
  have hn36 := g.n36
  have hcl := cnF_le o (w * h)
  have hib : i ≠ b := by
    rintro rfl
    have := B.home
    omega
  have hxi : x ≠ i := by
    rintro rfl
    omega
  have hcu := sumN_upd (f := fun j => one (fin (o j))) (g := fun j => one (fin (upd o i (o x + wt x i) j))) hi fun j _ hj => by simp only [upd_ne hj]
  have hmu := sumN_upd (f := fun j => wgh (o j)) (g := fun j => wgh (upd o i (o x + wt x i) j)) hi fun j _ hj => by simp only [upd_ne hj]
  simp only [upd_self] at hcu hmu
  have e1 : one (fin (o x + wt x i)) = 1 := by unfold fin; rw [decide_eq_true (by omega)]; rfl
  have e2 : wgh (o x + wt x i) = (o x + wt x i).toNat := if_neg (by omega)
  rw [e1] at hcu
  rw [e2] at hmu
  have hcn : cnF o (w * h) ≤ cnF (upd o i (o x + wt x i)) (w * h) ∧ (o i < 0 → cnF (upd o i (o x + wt x i)) (w * h) = cnF o (w * h) + 1) := by
    rw [cnF_eq, cnF_eq]
    have h1 := one_le (fin (o i))
    refine ⟨by omega, fun hneg => ?_⟩
    have : one (fin (o i)) = 0 := by unfold fin; rw [decide_eq_false (by omega)]; rfl
    omega
  refine ⟨⟨fun j hj => ?_, by rw [upd_ne (Ne.symm hib)]; exact B.home⟩, ?_⟩
  · by_cases e : j = i
    · subst e
      right
      rw [upd_self]
      refine ⟨by omega, ?_, .next hx3 hix⟩
      by_cases hneg : o j < 0
      · have := hcn.2 hneg
        omega
      · rcases B.val j hj with e | ⟨_, h2, _⟩
        · omega
        · have := hcn.1
          omega
    · rw [upd_ne e]
      rcases B.val j hj with e | ⟨h1, h2, h3⟩
      · exact .inl e
      · exact .inr ⟨h1, by have := hcn.1; omega, h3⟩
  · unfold mu
    have hle : o x + wt x i < 1000 := by omega
    by_cases hneg : o i < 0
    · have : wgh (o i) = 1000 := if_pos hneg
      omega
    · have : wgh (o i) = (o i).toNat := if_neg hneg
      omega

/-- A round over all cells. -/
structure Bfr (m : Mp) (n : Nat) (wt : Nat → Nat → Int) (b : Nat) (o q : Nat → Int) (ag : Bool) (j : Nat) : Prop where
  bf : Bf m n wt b q
  le : mu q n ≤ mu o n
  yes : ag = true → mu q n < mu o n
  no : ag = false → ∀ i, i < j → 0 < zAt m.C i → ∀ x ∈ nx m i, 0 ≤ q x → 0 ≤ q i ∧ q i ≤ q x + wt x i
theorem Bfr.start {m : Mp} {n : Nat} {wt : Nat → Nat → Int} {b : Nat} {o : Nat → Int} (h : Bf m n wt b o) : Bfr m n wt b o o false 0 := ⟨h, Nat.le_refl _, (fun e => by cases e), fun _ i hi => by omega⟩
theorem Bfr.skip {m : Mp} {n : Nat} {wt : Nat → Nat → Int} {b : Nat} {o q : Nat → Int} {ag : Bool} {j : Nat} (h : Bfr m n wt b o q ag j) (hj : zAt m.C j = 0) : Bfr m n wt b o q ag (j + 1) :=
  ⟨h.bf, h.le, h.yes, fun e i hi ho => by
    by_cases e2 : i = j
    · subst e2; omega
    · exact h.no e i (by omega) ho⟩
/-- The cells next to one of them. -/
structure Bfk (m : Mp) (n : Nat) (wt : Nat → Nat → Int) (b : Nat) (o q : Nat → Int) (ag : Bool) (j k : Nat) : Prop where
  rnd : Bfr m n wt b o q ag j
  here : ag = false → ∀ r, r < k → r < (nx m j).length → 0 ≤ q ((nx m j).getD r 0) → 0 ≤ q j ∧ q j ≤ q ((nx m j).getD r 0) + wt ((nx m j).getD r 0) j
theorem Bfk.start {m : Mp} {n : Nat} {wt : Nat → Nat → Int} {b : Nat} {o q : Nat → Int} {ag : Bool} {j : Nat} (h : Bfr m n wt b o q ag j) : Bfk m n wt b o q ag j 0 := ⟨h, fun _ r hr => by omega⟩
theorem Bfk.skip {m : Mp} {n : Nat} {wt : Nat → Nat → Int} {b : Nat} {o q : Nat → Int} {ag : Bool} {j k : Nat} (h : Bfk m n wt b o q ag j k) (hy : 0 ≤ q ((nx m j).getD k 0) → 0 ≤ q j ∧ q j ≤ q ((nx m j).getD k 0) + wt ((nx m j).getD k 0) j) : Bfk m n wt b o q ag j (k + 1) :=
  ⟨h.rnd, fun e r hr hl => by
    by_cases e2 : r = k
    · subst e2; exact hy
    · exact h.here e r (by omega) hl⟩
theorem Bfk.low {m : Mp} {w h : Nat} (g : GoodM m w h) {wt : Nat → Nat → Int} (hb : Wts m (w * h) wt) {b : Nat} {o q : Nat → Int} {ag : Bool} {j k : Nat} (hbo : Opn m (w * h) b) (B : Bfk m (w * h) wt b o q ag j k) (hj : j < w * h) (ho : 0 < zAt m.C j) (hk : k < (nx m j).length) (h0 : 0 ≤ q ((nx m j).getD k 0))
    (hlt : q j < 0 ∨ q ((nx m j).getD k 0) + wt ((nx m j).getD k 0) j < q j) : Bfk m (w * h) wt b o (upd q j (q ((nx m j).getD k 0) + wt ((nx m j).getD k 0) j)) true j (k + 1) := by
  have hm := getD_mem hk
  have hx := nx_lt g hj hm
  obtain ⟨h1, h2⟩ := B.rnd.bf.low g hb hbo hj hx.1 (nx_sym g hj ho hm) h0 hlt
  have := B.rnd.le
  exact ⟨⟨h1, by omega, fun _ => by omega, fun e => by cases e⟩, fun e => by cases e⟩
theorem Bfk.full {m : Mp} {n : Nat} {wt : Nat → Nat → Int} {b : Nat} {o q : Nat → Int} {ag : Bool} {j k : Nat} (h : Bfk m n wt b o q ag j k) (hk : (nx m j).length ≤ k) : Bfr m n wt b o q ag (j + 1) :=
  ⟨h.rnd.bf, h.rnd.le, h.rnd.yes, fun e i hi ho x hx h0 => by
    by_cases e2 : i = j
    · subst e2
      obtain ⟨r, hr, e3⟩ := List.mem_iff_getElem.1 hx
      have e4 : (nx m i).getD r 0 = x := by simp [hr, e3]
      have := h.here e r (by omega) hr
      rw [e4] at this
      exact this h0
    · exact h.rnd.no e i (by omega) ho x hx h0⟩
/-- Nothing becomes less: these are the least times. -/
theorem Bf.full {m : Mp} {w h : Nat} (g : GoodM m w h) {wt : Nat → Nat → Int} {b : Nat} {q D : Nat → Int} (hbo : Opn m (w * h) b) (B : Bf m (w * h) wt b q) (hD : IsD m wt b D)
    (hc : ∀ i, i < w * h → 0 < zAt m.C i → ∀ x ∈ nx m i, 0 ≤ q x → 0 ≤ q i ∧ q i ≤ q x + wt x i) : ∀ i, i < w * h → q i = D i := by
  have key : ∀ y t, Wg m wt b y t → 0 ≤ q y ∧ q y ≤ t := by
    intro y t hw
    induction hw with
    | here => rw [B.home]; omega
    | next h1 hy ih =>
      rename_i x y t
      have hxo := h1.opn g hbo
      have hyo := nx_lt g hxo.1 hy
      have := hc y hyo.1 hyo.2 x (nx_sym g hxo.1 hxo.2 hy) ih.1
      omega
  intro i hi
  rcases hD i with ⟨e, n⟩ | ⟨p, l⟩
  · rcases B.val i hi with e2 | ⟨_, _, h3⟩
    · rw [e, e2]
    · exact absurd h3 (n _)
  · have h1 := key i _ l.1
    rcases B.val i hi with e2 | ⟨_, _, h3⟩
    · omega
    · have := l.2 _ h3
      omega
/-! The program's way: the nearest cell that is left is settled. -/
def inf : Int := 9223372036854775807
theorem inf_eq : inf = 9223372036854775807 := rfl
def setT (sb : Nat → Bool) (j : Nat) : Nat → Bool := fun i => sb i || i == j
theorem setT_self (sb : Nat → Bool) (j : Nat) : setT sb j j = true := by simp [setT]
theorem setT_ne {sb : Nat → Bool} {i j : Nat} (h : i ≠ j) : setT sb j i = sb i := by simp [setT, h]

/-- What is known of the times. -/
def Tms (m : Mp) (n : Nat) (wt : Nat → Nat → Int) (s : Nat) (k : Nat) (tm : Nat → Int) : Prop := ∀ i, tm i = inf ∨ (Opn m n i ∧ 0 ≤ tm i ∧ tm i ≤ 27 * (k : Int) ∧ Wg m wt s i (tm i))
/-- A cell is about to be settled; 'k' have been. -/
structure Dij (m : Mp) (n : Nat) (wt : Nat → Nat → Int) (s : Nat) (sb : Nat → Bool) (tm : Nat → Int) (c k : Nat) : Prop where
  cell : c < n
  left : sb c = false
  tc : tm c ≠ inf
  val : Tms m n wt s k tm
  old : ∀ i, sb i = true → i < n ∧ tm i ≤ tm c ∧ ∀ y ∈ nx m i, tm y ≤ tm i + wt i y
  new : ∀ j, j < n → sb j = false → tm c ≤ tm j
  home : tm s = 0
  cnt : cntB sb n = k
theorem Dij.k_lt {m : Mp} {n : Nat} {wt : Nat → Nat → Int} {s : Nat} {sb : Nat → Bool} {tm : Nat → Int} {c k : Nat} (h : Dij m n wt s sb tm c k) : k + 1 ≤ n := by
  have := cntB_new h.cell h.left (setT_self sb c) fun j hj => setT_ne hj
  have := cntB_le (setT sb c) n
  have := h.cnt
  omega
theorem Dij.start {m : Mp} {n : Nat} {wt : Nat → Nat → Int} {s : Nat} (hs : Opn m n s) : Dij m n wt s (fun _ => false) (upd (fun _ => inf) s 0) s 0 := by
  have e0 : ∀ j, upd (fun _ => inf) s 0 j = if j = s then 0 else inf := fun j => rfl
  refine ⟨hs.1, rfl, by rw [upd_self]; decide, fun i => ?_, (fun i e => by cases e), fun j hj _ => ?_, upd_self _ _ _, ?_⟩
  · by_cases e : i = s
    · subst e
      right
      rw [upd_self]
      exact ⟨hs, Int.le_refl _, by omega, .here⟩
    · exact .inl (upd_ne e)
  · rw [upd_self, e0]
    split
    · exact Int.le_refl _
    · decide
  · have : ∀ n, cntB (fun _ => false) n = 0 := fun n => by
      induction n with
      | zero => rfl
      | succ n ih =>
        show cntB (fun _ => false) n + one false = 0
        rw [ih]; rfl
    exact this n
theorem Dij.tc_bd {m : Mp} {n : Nat} {wt : Nat → Nat → Int} {s : Nat} {sb : Nat → Bool} {tm : Nat → Int} {c k : Nat} (h : Dij m n wt s sb tm c k) : Opn m n c ∧ 0 ≤ tm c ∧ tm c ≤ 27 * (k : Int) ∧ Wg m wt s c (tm c) := by
  rcases h.val c with e | e
  · exact absurd e h.tc
  · exact e

/-- The cells next to the settled one, the first 'r' of which have been looked at. -/
structure Rlx (m : Mp) (n : Nat) (wt : Nat → Nat → Int) (s : Nat) (sb : Nat → Bool) (tm : Nat → Int) (c k r : Nat) : Prop where
  cell : c < n
  tc : tm c ≠ inf
  tk : tm c ≤ 27 * (k : Int)
  val : Tms m n wt s (k + 1) tm
  at_ : sb c = true
  old : ∀ i, sb i = true → i < n ∧ tm i ≤ tm c ∧ (i ≠ c → ∀ y ∈ nx m i, tm y ≤ tm i + wt i y)
  new : ∀ j, j < n → sb j = false → tm c ≤ tm j
  home : tm s = 0
  cnt : cntB sb n = k + 1
  look : ∀ q, q < r → q < (nx m c).length → tm ((nx m c).getD q 0) ≤ tm c + wt c ((nx m c).getD q 0)
theorem Dij.settle {m : Mp} {n : Nat} {wt : Nat → Nat → Int} {s : Nat} {sb : Nat → Bool} {tm : Nat → Int} {c k : Nat} (h : Dij m n wt s sb tm c k) : Rlx m n wt s (setT sb c) tm c k 0 := by
  refine ⟨h.cell, h.tc, h.tc_bd.2.2.1, fun i => ?_, setT_self _ _, fun i hi => ?_, fun j hj hs => ?_, h.home, ?_, fun q hq => by omega⟩
  · rcases h.val i with e | ⟨h1, h2, h3, h4⟩
    · exact .inl e
    · exact .inr ⟨h1, h2, by omega, h4⟩
  · by_cases e : i = c
    · subst e; exact ⟨h.cell, Int.le_refl _, fun e => absurd rfl e⟩
    · rw [setT_ne e] at hi
      obtain ⟨h1, h2, h3⟩ := h.old i hi
      exact ⟨h1, h2, fun _ => h3⟩
  · have e : j ≠ c := by
      rintro rfl
      rw [setT_self] at hs
      cases hs
    rw [setT_ne e] at hs
    exact h.new j hj hs
  · rw [cntB_new h.cell h.left (setT_self sb c) fun j hj => setT_ne hj, h.cnt]
theorem Rlx.tc_bd {m : Mp} {n : Nat} {wt : Nat → Nat → Int} {s : Nat} {sb : Nat → Bool} {tm : Nat → Int} {c k r : Nat} (h : Rlx m n wt s sb tm c k r) : Opn m n c ∧ 0 ≤ tm c ∧ tm c ≤ 27 * (k : Int) ∧ Wg m wt s c (tm c) := by
  rcases h.val c with e | e
  · exact absurd e h.tc
  · exact ⟨e.1, e.2.1, h.tk, e.2.2.2⟩
theorem Rlx.k_le {m : Mp} {n : Nat} {wt : Nat → Nat → Int} {s : Nat} {sb : Nat → Bool} {tm : Nat → Int} {c k r : Nat} (h : Rlx m n wt s sb tm c k r) : k + 1 ≤ n := by
  have := cntB_le sb n
  have := h.cnt
  omega
/-- One look. -/
theorem Rlx.look1 {m : Mp} {w h : Nat} (g : GoodM m w h) {wt : Nat → Nat → Int} (hb : Wts m (w * h) wt) {s : Nat} {sb : Nat → Bool} {tm : Nat → Int} {c k r y : Nat} {v : Int} (R : Rlx m (w * h) wt s sb tm c k r) (hr : r < (nx m c).length) (hy : (nx m c).getD r 0 = y)
    (hv : (v = tm y ∧ tm y ≤ tm c + wt c y) ∨ (v = tm c + wt c y ∧ tm c + wt c y < tm y)) : Rlx m (w * h) wt s sb (upd tm y v) c k (r + 1) := by
  obtain ⟨ho, h0, h1, hw⟩ := R.tc_bd
  have hm : y ∈ nx m c := by rw [← hy]; exact getD_mem hr
  have hyo := nx_lt g ho.1 hm
  have hbd := hb c y ho hm
  rcases hv with ⟨rfl, hle⟩ | ⟨rfl, hlt⟩
  · have e : upd tm y (tm y) = tm := by
      funext j
      by_cases e : j = y
      · subst e; exact upd_self _ _ _
      · exact upd_ne e
    rw [e]
    refine ⟨R.cell, R.tc, R.tk, R.val, R.at_, R.old, R.new, R.home, R.cnt, fun q hq hl => ?_⟩
    by_cases e : q = r
    · subst e; rw [hy]; exact hle
    · exact R.look q (by omega) hl
  · have hyc : y ≠ c := by rintro rfl; omega
    have hys : sb y = false := by
      cases e : sb y with
      | false => rfl
      | true => have := (R.old y e).2.1; omega
    have hle : ∀ j, upd tm y (tm c + wt c y) j ≤ tm j := fun j => by
      by_cases e : j = y
      · subst e; rw [upd_self]; omega
      · rw [upd_ne e]; exact Int.le_refl _
    have hsame : ∀ j, sb j = true → upd tm y (tm c + wt c y) j = tm j := fun j hj => upd_ne (by rintro rfl; rw [hys] at hj; cases hj)
    have hc : upd tm y (tm c + wt c y) c = tm c := upd_ne (Ne.symm hyc)
    have hsy : s ≠ y := by
      rintro rfl
      have := R.home
      omega
    refine ⟨R.cell, by rw [hc]; exact R.tc, by rw [hc]; exact R.tk, fun i => ?_, R.at_, fun i hi => ?_, fun j hj hs => ?_, by rw [upd_ne hsy]; exact R.home, R.cnt, fun q hq hl => ?_⟩
    · by_cases e : i = y
      · subst e
        right
        rw [upd_self]
        exact ⟨hyo, by omega, by omega, .next hw hm⟩
      · rw [upd_ne e]; exact R.val i
    · obtain ⟨a1, a2, a3⟩ := R.old i hi
      rw [hsame i hi, hc]
      exact ⟨a1, a2, fun hic z hz => Int.le_trans (hle z) (a3 hic z hz)⟩
    · rw [hc]
      by_cases e : j = y
      · subst e; rw [upd_self]; omega
      · rw [upd_ne e]; exact R.new j hj hs
    · rw [hc]
      by_cases e : q = r
      · subst e; rw [hy, upd_self]; exact Int.le_refl _
      · exact Int.le_trans (hle _) (R.look q (by omega) hl)
/-- All looked at: what is settled is settled. -/
structure Rdy (m : Mp) (n : Nat) (wt : Nat → Nat → Int) (s : Nat) (sb : Nat → Bool) (tm : Nat → Int) (c k : Nat) : Prop where
  cell : c < n
  val : Tms m n wt s k tm
  old : ∀ i, sb i = true → i < n ∧ tm i ≤ tm c ∧ ∀ y ∈ nx m i, tm y ≤ tm i + wt i y
  new : ∀ j, j < n → sb j = false → tm c ≤ tm j
  home : tm s = 0
  cnt : cntB sb n = k
theorem Rlx.full {m : Mp} {n : Nat} {wt : Nat → Nat → Int} {s : Nat} {sb : Nat → Bool} {tm : Nat → Int} {c k r : Nat} (R : Rlx m n wt s sb tm c k r) (hr : (nx m c).length ≤ r) : Rdy m n wt s sb tm c (k + 1) :=
  ⟨R.cell, R.val, fun i hi => by
    obtain ⟨a1, a2, a3⟩ := R.old i hi
    refine ⟨a1, a2, fun y hy => ?_⟩
    by_cases e : i = c
    · subst e
      obtain ⟨q, hq, e3⟩ := List.mem_iff_getElem.1 hy
      have e4 : (nx m i).getD q 0 = y := by simp [hq, e3]
      have := R.look q (by omega) hq
      rwa [e4] at this
    · exact a3 e y hy, R.new, R.home, R.cnt⟩
/-- The nearest cell of those that are left, of the first 'o'. -/
structure Near (n : Nat) (sb : Nat → Bool) (tm : Nat → Int) (o : Nat) (p : Nat) (l : Int) : Prop where
  all : ∀ j, j < o → sb j = false → l ≤ tm j
  is_ : l = inf ∨ (p < n ∧ sb p = false ∧ tm p = l ∧ l < inf)
theorem Near.start (n : Nat) (sb : Nat → Bool) (tm : Nat → Int) : Near n sb tm 0 0 inf := ⟨fun j hj => by omega, .inl rfl⟩
theorem Near.le {n : Nat} {sb : Nat → Bool} {tm : Nat → Int} {o p : Nat} {l : Int} (h : Near n sb tm o p l) : l ≤ inf := by
  rcases h.is_ with e | e
  · rw [e]; exact Int.le_refl _
  · exact Int.le_of_lt e.2.2.2
theorem Near.skip {n : Nat} {sb : Nat → Bool} {tm : Nat → Int} {o p : Nat} {l : Int} (h : Near n sb tm o p l) (ho : sb o = true ∨ l ≤ tm o) : Near n sb tm (o + 1) p l :=
  ⟨fun j hj hs => by
    by_cases e : j = o
    · subst e
      rcases ho with ho | ho
      · rw [ho] at hs; cases hs
      · exact ho
    · exact h.all j (by omega) hs, h.is_⟩
theorem Near.take {n : Nat} {sb : Nat → Bool} {tm : Nat → Int} {o p : Nat} {l : Int} (h : Near n sb tm o p l) (hn : o < n) (hs : sb o = false) (hl : tm o < l) : Near n sb tm (o + 1) o (tm o) :=
  ⟨fun j hj hs => by
    by_cases e : j = o
    · subst e; exact Int.le_refl _
    · have := h.all j (by omega) hs; omega, .inr ⟨hn, hs, rfl, by have := h.le; omega⟩⟩
theorem Rdy.next {m : Mp} {n : Nat} {wt : Nat → Nat → Int} {s : Nat} {sb : Nat → Bool} {tm : Nat → Int} {c k p : Nat} {l : Int} (R : Rdy m n wt s sb tm c k) (N : Near n sb tm n p l) (hl : l ≠ inf) : Dij m n wt s sb tm p k := by
  rcases N.is_ with e | ⟨h1, h2, h3, h4⟩
  · exact absurd e hl
  · refine ⟨h1, h2, by omega, R.val, fun i hi => ?_, fun j hj hs => ?_, R.home, R.cnt⟩
    · obtain ⟨a1, a2, a3⟩ := R.old i hi
      have := R.new p h1 h2
      exact ⟨a1, by omega, a3⟩
    · have := N.all j hj hs
      omega
/-- What the program has for a least time. -/
def tmOf (d : Int) : Int := if d < 0 then inf else d
theorem Rdy.done {m : Mp} {w h : Nat} (g : GoodM m w h) {wt : Nat → Nat → Int} (hb : Wts m (w * h) wt) {s : Nat} {sb : Nat → Bool} {tm D : Nat → Int} {c k p : Nat} (hs : Opn m (w * h) s) (R : Rdy m (w * h) wt s sb tm c k) (hk : k ≤ 36) (N : Near (w * h) sb tm (w * h) p inf) (hD : IsD m wt s D) :
    ∀ i, tm i = tmOf (D i) := by
  have hset : ∀ i, tm i ≠ inf → i < w * h ∧ sb i = true := fun i hi => by
    rcases R.val i with e | ⟨h1, h2, h3, h4⟩
    · exact absurd e hi
    · refine ⟨h1.1, ?_⟩
      cases e : sb i with
      | true => rfl
      | false =>
        have := N.all i h1.1 e
        unfold inf at this
        omega
  have key : ∀ y t, Wg m wt s y t → tm y ≠ inf ∧ tm y ≤ t := by
    intro y t hw
    induction hw with
    | here => rw [R.home]; exact ⟨by decide, Int.le_refl _⟩
    | next h1 hy ih =>
      rename_i x y t
      obtain ⟨a1, a2⟩ := hset x ih.1
      obtain ⟨-, -, b3⟩ := R.old x a2
      have := b3 y hy
      have hxo := h1.opn g hs
      have hw := hb x y hxo hy
      rcases R.val x with e | ⟨c1, c2, c3, c4⟩
      · exact absurd e ih.1
      · exact ⟨by unfold inf; omega, by omega⟩
  intro i
  unfold tmOf
  rcases hD i with ⟨e, n⟩ | ⟨p, l⟩
  · rw [e, if_pos (by decide)]
    rcases R.val i with e2 | ⟨_, _, _, h4⟩
    · exact e2
    · exact absurd h4 (n _)
  · have h1 := key i _ l.1
    rw [if_neg (by omega)]
    rcases R.val i with e2 | ⟨_, _, _, h4⟩
    · exact absurd e2 h1.1
    · have := l.2 _ h4
      omega

/-! How great a least time is. -/
theorem sumN_lt {f g : Nat → Nat} {i : Nat} : ∀ {n : Nat}, i < n → (∀ j, f j ≤ g j) → f i + 1 ≤ g i → sumN f n + 1 ≤ sumN g n
  | 0, h, _, _ => by omega
  | n + 1, h, hle, hi => by
    rw [sumN, sumN]
    by_cases e : i = n
    · subst e
      have : ∀ k, sumN f k ≤ sumN g k := fun k => by
        induction k with
        | zero => exact Nat.le_refl _
        | succ k ih => rw [sumN, sumN]; have := hle k; omega
      have := this i
      omega
    · have := sumN_lt (n := n) (by omega : i < n) hle hi
      have := hle n
      omega
theorem IsD.step {m : Mp} {wt : Nat → Nat → Int} {s x y : Nat} {D : Nat → Int} (hd : IsD m wt s D) (hx : 0 ≤ D x) (hy : y ∈ nx m x) : 0 ≤ D y ∧ D y ≤ D x + wt x y := by
  rcases hd x with ⟨e, _⟩ | ⟨_, l⟩
  · omega
  · have hw := Wg.next l.1 hy
    rcases hd y with ⟨_, n⟩ | ⟨p, l2⟩
    · exact absurd hw (n _)
    · exact ⟨p, l2.2 _ hw⟩
theorem IsD.last {m : Mp} {wt : Nat → Nat → Int} {s y : Nat} {D : Nat → Int} (hd : IsD m wt s D) (hy : 0 ≤ D y) (hs : y ≠ s) : ∃ x, 0 ≤ D x ∧ y ∈ nx m x ∧ D y = D x + wt x y := by
  rcases hd y with ⟨e, _⟩ | ⟨_, l⟩
  · omega
  · obtain ⟨hw, hl⟩ := l
    obtain ⟨t, ht⟩ : ∃ t, D y = t := ⟨_, rfl⟩
    rw [ht] at hw
    cases hw with
    | here => exact absurd rfl hs
    | next h1 h2 =>
      rename_i x t
      rcases hd x with ⟨_, n⟩ | ⟨p, l2⟩
      · exact absurd h1 (n _)
      · have h3 := l2.2 _ h1
        have h4 := hd.step p h2
        exact ⟨x, p, h2, by omega⟩
theorem IsD.bd {m : Mp} {w h : Nat} (g : GoodM m w h) {wt : Nat → Nat → Int} {s : Nat} (hs : Opn m (w * h) s) (hb : Wts m (w * h) wt) {D : Nat → Int} (hd : IsD m wt s D) (y : Nat) : D y ≤ 972 := by
  have key : ∀ (k : Nat) (y : Nat), D y ≤ k → 0 ≤ D y → D y ≤ 27 * (sumN (fun i => one (decide (0 ≤ D i ∧ D i < D y))) (w * h) : Int) := by
    intro k
    induction k with
    | zero => intro y h1 h2; omega
    | succ k ih =>
      intro y h1 h2
      by_cases e : y = s
      · subst e
        have := hd.self g hs hb
        omega
      · obtain ⟨x, hx, hxy, he⟩ := hd.last h2 e
        have hxo := hd.opn g hs hx
        have hw := hb x y hxo hxy
        have h3 := ih x (by omega) hx
        have h4 := sumN_lt (f := fun i => one (decide (0 ≤ D i ∧ D i < D x))) (g := fun i => one (decide (0 ≤ D i ∧ D i < D y))) hxo.1 (fun j => by
          by_cases hj : 0 ≤ D j ∧ D j < D x
          · simp only [decide_eq_true hj, decide_eq_true (show 0 ≤ D j ∧ D j < D y by omega)]
            exact Nat.le_refl _
          · simp only [decide_eq_false hj]
            exact Nat.zero_le _) (by
          simp only [decide_eq_false (show ¬ (0 ≤ D x ∧ D x < D x) by omega), decide_eq_true (show 0 ≤ D x ∧ D x < D y by omega)]
          exact Nat.le_refl _)
        omega
  by_cases hy : 0 ≤ D y
  · have h1 := key (D y).toNat y (by omega) hy
    have h2 := sumN_le (f := fun i => one (decide (0 ≤ D i ∧ D i < D y))) (fun i => one_le _) (w * h)
    have := g.n36
    omega
  · omega

end Go.Proofs.Ytnenaponiahalaa.Lb
