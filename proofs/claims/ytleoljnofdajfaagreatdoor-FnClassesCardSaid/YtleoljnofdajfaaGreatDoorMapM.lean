/- Maps: plain lemmas. -/
import Derived.Test.YtleoljnofdajfaaGreatDoorLib
namespace Go.Proofs.YtleoljnofdajfaaGreatDoor.Lb
open Go.RowKit
set_option linter.unusedVariables false

/-- A map: its sides, its rises and its costs. -/
structure Mp where
  W : Int
  H : Int
  R : List Int
  C : List Int

def zAt (zs : List Int) (k : Nat) : Int := zs.getD k 0

theorem zAt_out (zs : List Int) (k : Nat) (h : zs.length ≤ k) : zAt zs k = 0 := by
  simp [zAt, List.getD, List.getElem?_eq_none h]
theorem zAt_take (zs : List Int) (k : Nat) (h : k < zs.length) : zs.take (k + 1) = zs.take k ++ [zAt zs k] := take_succ_getD zs 0 k h
theorem zs_ext {a b : List Int} (hl : a.length = b.length) (h : ∀ i, i < a.length → zAt a i = zAt b i) : a = b := by
  apply List.ext_getElem hl
  intro i h1 h2
  have := h i h1
  simpa [zAt, h1, h2] using this

/-- What is said of one cell. -/
def CellOk (m : Mp) (i : Nat) : Prop := 0 ≤ zAt m.R i ∧ zAt m.R i ≤ 9 ∧ 0 ≤ zAt m.C i ∧ zAt m.C i ≤ 9
def SidesOk (m : Mp) : Prop := 1 ≤ m.W ∧ m.W ≤ 6 ∧ 1 ≤ m.H ∧ m.H ≤ 6 ∧ (m.R.length : Int) = m.W * m.H ∧ m.C.length = m.R.length
def Mp.ok (m : Mp) : Prop := SidesOk m ∧ ∀ i, i < m.R.length → CellOk m i
instance (m : Mp) (i : Nat) : Decidable (CellOk m i) := by unfold CellOk; infer_instance
instance (m : Mp) : Decidable (SidesOk m) := by unfold SidesOk; infer_instance
instance (m : Mp) : Decidable m.ok := by unfold Mp.ok; infer_instance
def okB (m : Mp) : Bool := decide m.ok

theorem okB_yes {m : Mp} (h : m.ok) : okB m = true := by simpa [okB] using h
theorem okB_no {m : Mp} (h : ¬ m.ok) : okB m = false := by simpa [okB] using h
theorem okB_iff {m : Mp} : okB m = true ↔ m.ok := by simp [okB]

theorem mul_bd {a b : Int} (h1 : 1 ≤ a) (h2 : a ≤ 6) (h3 : 1 ≤ b) (h4 : b ≤ 6) : 1 ≤ a * b ∧ a * b ≤ 36 := by
  obtain rfl | rfl | rfl | rfl | rfl | rfl : a = 1 ∨ a = 2 ∨ a = 3 ∨ a = 4 ∨ a = 5 ∨ a = 6 := by omega
  all_goals omega

/-- The facts that a valid map gives to the walks, in Nat's form. -/
structure GoodM (m : Mp) (w h : Nat) : Prop where
  W : m.W = w
  H : m.H = h
  w1 : 1 ≤ w
  w6 : w ≤ 6
  h1 : 1 ≤ h
  h6 : h ≤ 6
  R : m.R.length = w * h
  C : m.C.length = w * h
  n1 : 1 ≤ w * h
  n36 : w * h ≤ 36
  cell : ∀ i, i < w * h → CellOk m i

theorem good_of {m : Mp} (h : m.ok) : ∃ w h, GoodM m w h := by
  obtain ⟨⟨h1, h2, h3, h4, h5, h6⟩, h7⟩ := h
  have e1 : m.W = (m.W.toNat : Nat) := by omega
  have e2 : m.H = (m.H.toNat : Nat) := by omega
  have hm := mul_bd h1 h2 h3 h4
  have e3 : m.R.length = m.W.toNat * m.H.toNat := by
    have : (m.R.length : Int) = ((m.W.toNat * m.H.toNat : Nat) : Int) := by
      rw [h5, Int.natCast_mul, ← e1, ← e2]
    exact Int.ofNat_inj.1 this
  refine ⟨m.W.toNat, m.H.toNat, ⟨e1, e2, by omega, by omega, by omega, by omega, e3, by omega, by omega, by omega, fun i hi => h7 i (by omega)⟩⟩

/-! The cells next to a cell. -/
def opn (m : Mp) (c : Nat) : Bool := decide (0 < zAt m.C c)
def upL (w c : Nat) : List Nat := if 0 < c / w then [c - w] else []
def lfL (w c : Nat) : List Nat := if 0 < c % w then [c - 1] else []
def rtL (w c : Nat) : List Nat := if c % w + 1 < w then [c + 1] else []
def dnL (w h c : Nat) : List Nat := if c / w + 1 < h then [c + w] else []
def near (w h c : Nat) : List Nat := upL w c ++ lfL w c ++ rtL w c ++ dnL w h c
def nx (m : Mp) (c : Nat) : List Nat := (near m.W.toNat m.H.toNat c).filter (opn m)
def stp (m : Mp) (a b : Nat) : Int :=
  if 0 < zAt m.R b - zAt m.R a then zAt m.C b + 2 * (zAt m.R b - zAt m.R a) else zAt m.C b + (if 2 < zAt m.R a - zAt m.R b then zAt m.R a - zAt m.R b - 2 else 0)
def ints (l : List Nat) : List Int := l.map Int.ofNat

theorem ints_length (l : List Nat) : (ints l).length = l.length := by simp [ints]
theorem ints_inj {a b : List Nat} (h : ints a = ints b) : a = b := by
  exact (List.map_inj_right (fun x y e => Int.ofNat.inj e)).1 h
theorem near_length (w h c : Nat) : (near w h c).length ≤ 4 := by
  unfold near upL lfL rtL dnL
  split <;> split <;> split <;> split <;> simp

theorem div_lt_of {w h c : Nat} (hw : 0 < w) (hc : c < w * h) : c / w < h := Nat.div_lt_of_lt_mul hc
theorem cell_split (w c : Nat) : c = w * (c / w) + c % w := (Nat.div_add_mod c w).symm

/-- A place by its row and its column. -/
theorem div_mk {w x y : Nat} (hx : x < w) : (y * w + x) / w = y := by
  rw [Nat.add_comm, Nat.add_mul_div_right _ _ (by omega), Nat.div_eq_of_lt hx, Nat.zero_add]
theorem mod_mk {w x y : Nat} (hx : x < w) : (y * w + x) % w = x := by
  rw [Nat.add_comm, Nat.add_mul_mod_self_right, Nat.mod_eq_of_lt hx]
theorem lt_mk {w h x y : Nat} (hx : x < w) (hy : y < h) : y * w + x < w * h := by
  have : (y + 1) * w ≤ h * w := Nat.mul_le_mul_right w hy
  rw [Nat.mul_comm w h]
  rw [Nat.add_mul] at this
  omega

theorem mem_near {w h c d : Nat} (hw : 1 ≤ w) (hc : c < w * h) :
    d ∈ near w h c ↔ d < w * h ∧ ((c / w = d / w ∧ (c % w = d % w + 1 ∨ d % w = c % w + 1)) ∨ (c % w = d % w ∧ (c / w = d / w + 1 ∨ d / w = c / w + 1))) := by
  have hx : c % w < w := Nat.mod_lt _ hw
  have hy : c / w < h := div_lt_of hw hc
  obtain ⟨x, y, hx', hy', rfl⟩ : ∃ x y, x < w ∧ y < h ∧ c = y * w + x := ⟨c % w, c / w, hx, hy, by rw [Nat.mul_comm]; exact cell_split w c⟩
  rw [div_mk hx', mod_mk hx'] at *
  unfold near upL lfL rtL dnL
  rw [div_mk hx', mod_mk hx']
  constructor
  · intro hd
    simp only [List.mem_append] at hd
    rcases hd with ((hd | hd) | hd) | hd
    · split at hd
      · simp only [List.mem_singleton] at hd
        obtain ⟨y', rfl⟩ : ∃ y', y = y' + 1 := ⟨y - 1, by omega⟩
        have e : d = y' * w + x := by rw [hd, Nat.add_mul]; omega
        subst e
        rw [div_mk hx', mod_mk hx']
        exact ⟨lt_mk hx' (by omega), .inr ⟨rfl, .inl rfl⟩⟩
      · simp at hd
    · split at hd
      · simp only [List.mem_singleton] at hd
        obtain ⟨x', rfl⟩ : ∃ x', x = x' + 1 := ⟨x - 1, by omega⟩
        have e : d = y * w + x' := by rw [hd]; omega
        subst e
        rw [div_mk (by omega), mod_mk (by omega)]
        exact ⟨lt_mk (by omega) hy', .inl ⟨rfl, .inl rfl⟩⟩
      · simp at hd
    · split at hd
      · simp only [List.mem_singleton] at hd
        have e : d = y * w + (x + 1) := by rw [hd]; omega
        subst e
        rw [div_mk (by omega), mod_mk (by omega)]
        exact ⟨lt_mk (by omega) hy', .inl ⟨rfl, .inr rfl⟩⟩
      · simp at hd
    · split at hd
      · simp only [List.mem_singleton] at hd
        have e : d = (y + 1) * w + x := by rw [hd, Nat.add_mul]; omega
        subst e
        rw [div_mk hx', mod_mk hx']
        exact ⟨lt_mk hx' (by omega), .inr ⟨rfl, .inr rfl⟩⟩
      · simp at hd
  · rintro ⟨hd, hcase⟩
    obtain ⟨u, v, hu, hv, rfl⟩ : ∃ u v, u < w ∧ v < h ∧ d = v * w + u := ⟨d % w, d / w, Nat.mod_lt _ hw, div_lt_of hw hd, by rw [Nat.mul_comm]; exact cell_split w d⟩
    rw [div_mk hu, mod_mk hu] at hcase
    simp only [List.mem_append]
    rcases hcase with ⟨rfl, h1 | h1⟩ | ⟨rfl, h1 | h1⟩
    · exact .inl (.inl (.inr (by rw [if_pos (by omega)]; simp; omega)))
    · exact .inl (.inr (by rw [if_pos (by omega)]; simp; omega))
    · exact .inl (.inl (.inl (by rw [if_pos (by omega)]; subst h1; simp [Nat.add_mul]; omega)))
    · exact .inr (by rw [if_pos (by omega)]; subst h1; simp [Nat.add_mul]; omega)

theorem mem_nx {m : Mp} {w h : Nat} (g : GoodM m w h) {c d : Nat} : d ∈ nx m c ↔ d ∈ near w h c ∧ 0 < zAt m.C d := by
  unfold nx opn
  rw [g.W, g.H]
  simp [List.mem_filter]
theorem nx_eq {m : Mp} {w h : Nat} (g : GoodM m w h) (c : Nat) : nx m c = (near w h c).filter (opn m) := by
  unfold nx; rw [g.W, g.H]; rfl

theorem nx_lt {m : Mp} {w h : Nat} (g : GoodM m w h) {c d : Nat} (hc : c < w * h) (hd : d ∈ nx m c) : d < w * h ∧ 0 < zAt m.C d := by
  obtain ⟨h1, h2⟩ := (mem_nx g).1 hd
  exact ⟨((mem_near g.w1 hc).1 h1).1, h2⟩
theorem nx_sym {m : Mp} {w h : Nat} (g : GoodM m w h) {c d : Nat} (hc : c < w * h) (ho : 0 < zAt m.C c) (hd : d ∈ nx m c) : c ∈ nx m d := by
  have hl := (nx_lt g hc hd).1
  have h1 := (mem_near g.w1 hc).1 ((mem_nx g).1 hd).1
  refine (mem_nx g).2 ⟨(mem_near g.w1 hl).2 ⟨hc, ?_⟩, ho⟩
  rcases h1.2 with ⟨a, b⟩ | ⟨a, b⟩
  · exact .inl ⟨a.symm, b.symm⟩
  · exact .inr ⟨a.symm, b.symm⟩
theorem nx_length (m : Mp) (c : Nat) : (nx m c).length ≤ 4 := Nat.le_trans (List.length_filter_le _ _) (near_length _ _ _)

end Go.Proofs.YtleoljnofdajfaaGreatDoor.Lb
