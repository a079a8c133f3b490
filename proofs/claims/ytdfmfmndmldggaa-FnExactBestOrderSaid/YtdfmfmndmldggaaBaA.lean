/- Texts of one layer: Lib, MapM, IntE, IntS, MapE, JoinM, FtM, Bk, InA, IntA, IntB, MpA, MapO, LisO, LwK. -/
import Derived.WalkKit
import Derived.Deep.QuietTactic
import Derived.BigQuiet
import Derived.Lib.Hide
import Derived.WalkSmall
import Derived.Test.YtdfmfmndmldggaaProg
import Derived.WalkLawsBesides
import Derived.WalkSpells
import Derived.Deep.RegionWith
import Derived.Lib.Join
import Derived.ProofKit
import Derived.OpenShut
import Derived.ChangeSlices
import Derived.WideShapes
import Derived.Lib.SmallJoins
namespace Go.Proofs.Ytdfmfmndmldggaa.Lb
open Go.RowKit

/-- 'n' cells from the slice's address on hold 'f 0', 'f 1', .. -/
def RowAt (w : World) (a : Option Addr) (n : Nat) (f : Nat → Value) : Prop :=
  n = 0 ∨ ∃ b off, a = some ⟨b, off, none⟩ ∧ ∀ k, k < n → w.cell? ⟨b, off + k, none⟩ = some (f k)

theorem RowAt.below {w w' : World} {a : Option Addr} {n : Nat} {f : Nat → Value} (h : RowAt w a n f) (hb : Below w.heap.size w w') : RowAt w' a n f := by
  rcases h with h | ⟨b, off, ha, hc⟩
  · exact .inl h
  · exact .inr ⟨b, off, ha, fun k hk => (hb.cell (World.block_lt_of_cell? w _ (hc k hk))).trans (hc k hk)⟩

theorem RowAt.belowB {B : Nat} {w w' : World} {a : Option Addr} {n : Nat} {f : Nat → Value} (h : RowAt w a n f) (hb : Below B w w') (hB : w.heap.size ≤ B) : RowAt w' a n f :=
  h.below (hb.mono hB)

theorem RowAt.heap {w w' : World} {a : Option Addr} {n : Nat} {f : Nat → Value} (h : RowAt w a n f) (hb : w'.heap = w.heap) : RowAt w' a n f := by
  rcases h with h | ⟨b, off, ha, hc⟩
  · exact .inl h
  · exact .inr ⟨b, off, ha, fun k hk => by rw [← hc k hk]; simp [World.cell?, hb]⟩

/-- A row in block 'g', which later writes leave alone. -/
theorem RowAt.grown {w w' : World} {g off : Nat} {n : Nat} {f : Nat → Value} (h : RowAt w (some ⟨g, off, none⟩) n f) {r : Option Nat} (hb : w.grownBy w' r) (hr : r ≠ some g) : RowAt w' (some ⟨g, off, none⟩) n f := by
  rcases h with h | ⟨b, o, ha, hc⟩
  · exact .inl h
  · obtain ⟨rfl, rfl⟩ : g = b ∧ off = o := by simpa using ha
    exact .inr ⟨g, off, rfl, fun k hk => hb.cell (hc k hk) (fun e => hr e.symm)⟩

theorem RowAt.of_owns {w : World} {base : Nat} {e : TypeId} {g n cap : Nat} {xs : List Value} (h : w.ownsRow base e 1 (.slice (some ⟨g, 0, none⟩) n cap) n xs) :
    RowAt w (some ⟨g, 0, none⟩) n (fun k => xs.getD k undef) := by
  refine .inr ⟨g, 0, rfl, fun k hk => ?_⟩
  have hl := h.1
  rw [Nat.zero_add, h.cellAt k (by omega)]
  simp [show k < xs.length by omega]

theorem RowAt.congr {w : World} {a : Option Addr} {n : Nat} {f g : Nat → Value} (h : RowAt w a n f) (hfg : ∀ k, k < n → f k = g k) : RowAt w a n g := by
  rcases h with h | ⟨b, off, ha, hc⟩
  · exact .inl h
  · exact .inr ⟨b, off, ha, fun k hk => by rw [hc k hk, hfg k hk]⟩

def sAt (ss : List ByteArray) (k : Nat) : ByteArray := ss.getD k ByteArray.empty
def StrRow (w : World) (a : Option Addr) (ss : List ByteArray) : Prop := RowAt w a ss.length (fun k => .string (sAt ss k))
def IntRow (w : World) (a : Option Addr) (zs : List Int) : Prop := RowAt w a zs.length (fun k => .int .i64 (zs.getD k 0))

def total : List ByteArray → Nat
  | [] => 0
  | s :: r => s.size + total r

theorem total_append (a b : List ByteArray) : total (a ++ b) = total a + total b := by
  induction a with
  | nil => simp [total]
  | cons s r ih => simp [total, ih]; omega

theorem take_succ_getD {α : Type} (l : List α) (d : α) (k : Nat) (h : k < l.length) : l.take (k + 1) = l.take k ++ [l.getD k d] := by
  rw [List.take_succ_eq_append_getElem h]; simp [h]

theorem total_take (ss : List ByteArray) (k : Nat) (h : k < ss.length) : total (ss.take (k + 1)) = total (ss.take k) + (sAt ss k).size := by
  rw [take_succ_getD ss ByteArray.empty k h, total_append]; simp [total, sAt]

theorem total_mono (ss : List ByteArray) (k : Nat) : total (ss.take k) ≤ total ss := by
  have := total_append (ss.take k) (ss.drop k)
  rw [List.take_append_drop] at this; omega

theorem size_le_total (ss : List ByteArray) (k : Nat) : (sAt ss k).size ≤ total ss := by
  by_cases h : k < ss.length
  · have := total_take ss k h
    have := total_mono ss (k + 1)
    omega
  · simp [sAt, List.getD, List.getElem?_eq_none (Nat.le_of_not_lt h)]

theorem ext_sAt {ss tt : List ByteArray} (hl : ss.length = tt.length) (h : ∀ i, i < ss.length → sAt ss i = sAt tt i) : ss = tt := by
  apply List.ext_getElem hl
  intro i h1 h2
  have := h i h1
  simpa [sAt, h1, h2] using this

theorem all_succ {p : Nat → Prop} {k : Nat} (h : ∀ i, i < k → p i) (hk : p k) : ∀ i, i < k + 1 → p i := by
  intro i hi
  by_cases e : i = k
  · subst e; exact hk
  · exact h i (by omega)

/-- Where two lists part first. -/
theorem first_of {n : Nat} {p : Nat → Prop} (h : ¬ ∀ i, i < n → p i) : ∃ j, j < n ∧ (∀ i, i < j → p i) ∧ ¬ p j := by
  induction n with
  | zero => exact absurd (fun i hi => by omega) h
  | succ n ih =>
    by_cases hn : ∀ i, i < n → p i
    · refine ⟨n, by omega, hn, fun hp => h fun i hi => ?_⟩
      by_cases e : i = n
      · subst e; exact hp
      · exact hn i (by omega)
    · obtain ⟨j, hj, h1, h2⟩ := ih hn
      exact ⟨j, by omega, h1, h2⟩

theorem first_diff {ss tt : List ByteArray} (hl : ss.length = tt.length) (hne : ss ≠ tt) : ∃ j, j < ss.length ∧ (∀ i, i < j → sAt ss i = sAt tt i) ∧ sAt ss j ≠ sAt tt j :=
  first_of (fun h => hne (ext_sAt hl h))

/-- The world as it was but for draws. -/
def Still (w w' : World) : Prop := ∃ n, w' = w.drewN n
theorem Still.refl (w : World) : Still w w := ⟨0, rfl⟩
theorem Still.below {w w' : World} (h : Still w w') (B : Nat) : Below B w w' := by
  obtain ⟨n, rfl⟩ := h; exact ⟨rfl, rfl, rfl, Nat.le_refl _, fun _ _ => rfl⟩
theorem Still.heap {w w' : World} (h : Still w w') : w'.heap = w.heap := by
  obtain ⟨n, rfl⟩ := h; rfl
theorem Still.trans {a b c : World} (h : Still a b) (k : Still b c) : Still a c := by
  obtain ⟨n, rfl⟩ := h; obtain ⟨m, rfl⟩ := k; exact ⟨n + m, by simp⟩
theorem Still.drewN {a b : World} (h : Still a b) (m : Nat) : Still a (b.drewN m) := h.trans ⟨m, rfl⟩
theorem Still.drew {a b : World} (h : Still a b) : Still a b.drew := h.trans ⟨1, rfl⟩

theorem toList_inj {a b : ByteArray} (h : a.toList = b.toList) : a = b := by
  rw [ByteArray.toList_eq, ByteArray.toList_eq] at h
  cases a; cases b
  simp only [ByteArray.mk.injEq]
  exact Array.toList_inj.1 h
theorem str_neq {a b : ByteArray} (h : a ≠ b) : (!a.toList == b.toList) = true := by
  simp only [Bool.not_eq_true', beq_eq_false_iff_ne, ne_eq]
  exact fun e => h (toList_inj e)
theorem str_beq {a b : ByteArray} (h : a ≠ b) : (a.toList == b.toList) = false := by
  simp only [beq_eq_false_iff_ne, ne_eq]
  exact fun e => h (toList_inj e)

theorem spot_none {w : World} {a : Addr} {v : Value} (h : w.cell? a = some v) : a.spot = none := by
  unfold World.cell? at h
  split at h
  · split at h
    · cases h
    · rename_i hs; simpa using hs
  · cases h
theorem add_of_spot {a : Addr} (h : a.spot = none) (k : Nat) : a.add k = ⟨a.block, a.off + k, none⟩ := by
  unfold Addr.add
  split
  · rename_i hk; subst hk; cases a; simp_all
  · simp
/-- A row whose cells are given by steps from an address. -/
theorem RowAt.of_add {w : World} {x : Addr} {n : Nat} {f : Nat → Value} (h : ∀ k, k < n → w.cell? (x.add k) = some (f k)) : RowAt w (some x) n f := by
  by_cases h0 : n = 0
  · exact .inl h0
  · have hs : x.spot = none := by
      have := h 0 (by omega)
      exact spot_none (a := x) (by simpa [Addr.add] using this)
    exact .inr ⟨x.block, x.off, by cases x; simp_all, fun k hk => by rw [← add_of_spot hs]; exact h k hk⟩

theorem ret_int {k : IntKind} {a b : Int} (h : a = b) : Ending.returned (.int k a) = .returned (.int k b) := by rw [h]
theorem ret_bool {a b : Bool} (h : a = b) : Ending.returned (.bool a) = .returned (.bool b) := by rw [h]

end Go.Proofs.Ytdfmfmndmldggaa.Lb

namespace Go.Proofs.Ytdfmfmndmldggaa.Lb
open Go.RowKit
set_option linter.unusedVariables false

/-- A map: its sides, its rises and its costs. -/
structure Mp where
  W : Int
  H : Int
  R : List Int
  C : List Int

def zAt (zs : List Int) (k : Nat) : Int := zs.getD k 0

theorem zAt_out (zs : List Int) (k : Nat) (h : zs.length ≤ k) : zAt zs k = 0 := by
  simp [zAt, List.getD, List.getElem?_eq_none h]
theorem zAt_take (zs : List Int) (k : Nat) (h : k < zs.length) : zs.take (k + 1) = zs.take k ++ [zAt zs k] := take_succ_getD zs 0 k h
theorem zs_ext {a b : List Int} (hl : a.length = b.length) (h : ∀ i, i < a.length → zAt a i = zAt b i) : a = b := by
  apply List.ext_getElem hl
  intro i h1 h2
  have := h i h1
  simpa [zAt, h1, h2] using this

/-- What is said of one cell. -/
def CellOk (m : Mp) (i : Nat) : Prop := 0 ≤ zAt m.R i ∧ zAt m.R i ≤ 9 ∧ 0 ≤ zAt m.C i ∧ zAt m.C i ≤ 9
def SidesOk (m : Mp) : Prop := 1 ≤ m.W ∧ m.W ≤ 6 ∧ 1 ≤ m.H ∧ m.H ≤ 6 ∧ (m.R.length : Int) = m.W * m.H ∧ m.C.length = m.R.length
def Mp.ok (m : Mp) : Prop := SidesOk m ∧ ∀ i, i < m.R.length → CellOk m i
instance (m : Mp) (i : Nat) : Decidable (CellOk m i) := by unfold CellOk; infer_instance
instance (m : Mp) : Decidable (SidesOk m) := by unfold SidesOk; infer_instance
instance (m : Mp) : Decidable m.ok := by unfold Mp.ok; infer_instance
def okB (m : Mp) : Bool := decide m.ok

theorem okB_yes {m : Mp} (h : m.ok) : okB m = true := by simpa [okB] using h
theorem okB_no {m : Mp} (h : ¬ m.ok) : okB m = false := by simpa [okB] using h
theorem okB_iff {m : Mp} : okB m = true ↔ m.ok := by simp [okB]

theorem mul_bd {a b : Int} (h1 : 1 ≤ a) (h2 : a ≤ 6) (h3 : 1 ≤ b) (h4 : b ≤ 6) : 1 ≤ a * b ∧ a * b ≤ 36 := by
  obtain rfl | rfl | rfl | rfl | rfl | rfl : a = 1 ∨ a = 2 ∨ a = 3 ∨ a = 4 ∨ a = 5 ∨ a = 6 := by omega
  all_goals omega

/-- The facts that a valid map gives to the walks, in Nat's form. -/
structure GoodM (m : Mp) (w h : Nat) : Prop where
  W : m.W = w
  H : m.H = h
  w1 : 1 ≤ w
  w6 : w ≤ 6
  h1 : 1 ≤ h
  h6 : h ≤ 6
  R : m.R.length = w * h
  C : m.C.length = w * h
  n1 : 1 ≤ w * h
  n36 : w * h ≤ 36
  cell : ∀ i, i < w * h → CellOk m i

theorem good_of {m : Mp} (h : m.ok) : ∃ w h, GoodM m w h := by
  obtain ⟨⟨h1, h2, h3, h4, h5, h6⟩, h7⟩ := h
  have e1 : m.W = (m.W.toNat : Nat) := by omega
  have e2 : m.H = (m.H.toNat : Nat) := by omega
  have hm := mul_bd h1 h2 h3 h4
  have e3 : m.R.length = m.W.toNat * m.H.toNat := by
    have : (m.R.length : Int) = ((m.W.toNat * m.H.toNat : Nat) : Int) := by
      rw [h5, Int.natCast_mul, ← e1, ← e2]
    exact Int.ofNat_inj.1 this
  refine ⟨m.W.toNat, m.H.toNat, ⟨e1, e2, by omega, by omega, by omega, by omega, e3, by omega, by omega, by omega, fun i hi => h7 i (by omega)⟩⟩

/-! The cells next to a cell. -/
def opn (m : Mp) (c : Nat) : Bool := decide (0 < zAt m.C c)
def upL (w c : Nat) : List Nat := if 0 < c / w then [c - w] else []
def lfL (w c : Nat) : List Nat := if 0 < c % w then [c - 1] else []
def rtL (w c : Nat) : List Nat := if c % w + 1 < w then [c + 1] else []
def dnL (w h c : Nat) : List Nat := if c / w + 1 < h then [c + w] else []
def near (w h c : Nat) : List Nat := upL w c ++ lfL w c ++ rtL w c ++ dnL w h c
def nx (m : Mp) (c : Nat) : List Nat := (near m.W.toNat m.H.toNat c).filter (opn m)
def stp (m : Mp) (a b : Nat) : Int :=
  if 0 < zAt m.R b - zAt m.R a then zAt m.C b + 2 * (zAt m.R b - zAt m.R a) else zAt m.C b + (if 2 < zAt m.R a - zAt m.R b then zAt m.R a - zAt m.R b - 2 else 0)
def ints (l : List Nat) : List Int := l.map Int.ofNat

theorem ints_length (l : List Nat) : (ints l).length = l.length := by simp [ints]
theorem ints_inj {a b : List Nat} (h : ints a = ints b) : a = b := by
  exact (List.map_inj_right (fun x y e => Int.ofNat.inj e)).1 h
theorem near_length (w h c : Nat) : (near w h c).length ≤ 4 := by
  unfold near upL lfL rtL dnL
  split <;> split <;> split <;> split <;> simp

theorem div_lt_of {w h c : Nat} (hw : 0 < w) (hc : c < w * h) : c / w < h := Nat.div_lt_of_lt_mul hc
theorem cell_split (w c : Nat) : c = w * (c / w) + c % w := (Nat.div_add_mod c w).symm

/-- A place by its row and its column. -/
theorem div_mk {w x y : Nat} (hx : x < w) : (y * w + x) / w = y := by
  rw [Nat.add_comm, Nat.add_mul_div_right _ _ (by omega), Nat.div_eq_of_lt hx, Nat.zero_add]
theorem mod_mk {w x y : Nat} (hx : x < w) : (y * w + x) % w = x := by
  rw [Nat.add_comm, Nat.add_mul_mod_self_right, Nat.mod_eq_of_lt hx]
theorem lt_mk {w h x y : Nat} (hx : x < w) (hy : y < h) : y * w + x < w * h := by
  have : (y + 1) * w ≤ h * w := Nat.mul_le_mul_right w hy
  rw [Nat.mul_comm w h]
  rw [Nat.add_mul] at this
  omega

theorem mem_near {w h c d : Nat} (hw : 1 ≤ w) (hc : c < w * h) :
    d ∈ near w h c ↔ d < w * h ∧ ((c / w = d / w ∧ (c % w = d % w + 1 ∨ d % w = c % w + 1)) ∨ (c % w = d % w ∧ (c / w = d / w + 1 ∨ d / w = c / w + 1))) := by
  have hx : c % w < w := Nat.mod_lt _ hw
  have hy : c / w < h := div_lt_of hw hc
  obtain ⟨x, y, hx', hy', rfl⟩ : ∃ x y, x < w ∧ y < h ∧ c = y * w + x := ⟨c % w, c / w, hx, hy, by rw [Nat.mul_comm]; exact cell_split w c⟩
  rw [div_mk hx', mod_mk hx'] at *
  unfold near upL lfL rtL dnL
  rw [div_mk hx', mod_mk hx']
  constructor
  · intro hd
    simp only [List.mem_append] at hd
    rcases hd with ((hd | hd) | hd) | hd
    · split at hd
      · simp only [List.mem_singleton] at hd
        obtain ⟨y', rfl⟩ : ∃ y', y = y' + 1 := ⟨y - 1, by omega⟩
        have e : d = y' * w + x := by rw [hd, Nat.add_mul]; omega
        subst e
        rw [div_mk hx', mod_mk hx']
        exact ⟨lt_mk hx' (by omega), .inr ⟨rfl, .inl rfl⟩⟩
      · simp at hd
    · split at hd
      · simp only [List.mem_singleton] at hd
        obtain ⟨x', rfl⟩ : ∃ x', x = x' + 1 := ⟨x - 1, by omega⟩
        have e : d = y * w + x' := by rw [hd]; omega
        subst e
        rw [div_mk (by omega), mod_mk (by omega)]
        exact ⟨lt_mk (by omega) hy', .inl ⟨rfl, .inl rfl⟩⟩
      · simp at hd
    · split at hd
      · simp only [List.mem_singleton] at hd
        have e : d = y * w + (x + 1) := by rw [hd]; omega
        subst e
        rw [div_mk (by omega), mod_mk (by omega)]
        exact ⟨lt_mk (by omega) hy', .inl ⟨rfl, .inr rfl⟩⟩
      · simp at hd
    · split at hd
      · simp only [List.mem_singleton] at hd
        have e : d = (y + 1) * w + x := by rw [hd, Nat.add_mul]; omega
        subst e
        rw [div_mk hx', mod_mk hx']
        exact ⟨lt_mk hx' (by omega), .inr ⟨rfl, .inr rfl⟩⟩
      · simp at hd
  · rintro ⟨hd, hcase⟩
    obtain ⟨u, v, hu, hv, rfl⟩ : ∃ u v, u < w ∧ v < h ∧ d = v * w + u := ⟨d % w, d / w, Nat.mod_lt _ hw, div_lt_of hw hd, by rw [Nat.mul_comm]; exact cell_split w d⟩
    rw [div_mk hu, mod_mk hu] at hcase
    simp only [List.mem_append]
    rcases hcase with ⟨rfl, h1 | h1⟩ | ⟨rfl, h1 | h1⟩
    · exact .inl (.inl (.inr (by rw [if_pos (by omega)]; simp; omega)))
    · exact .inl (.inr (by rw [if_pos (by omega)]; simp; omega))
    · exact .inl (.inl (.inl (by rw [if_pos (by omega)]; subst h1; simp [Nat.add_mul]; omega)))
    · exact .inr (by rw [if_pos (by omega)]; subst h1; simp [Nat.add_mul]; omega)

theorem mem_nx {m : Mp} {w h : Nat} (g : GoodM m w h) {c d : Nat} : d ∈ nx m c ↔ d ∈ near w h c ∧ 0 < zAt m.C d := by
  unfold nx opn
  rw [g.W, g.H]
  simp [List.mem_filter]
theorem nx_eq {m : Mp} {w h : Nat} (g : GoodM m w h) (c : Nat) : nx m c = (near w h c).filter (opn m) := by
  unfold nx; rw [g.W, g.H]; rfl

theorem nx_lt {m : Mp} {w h : Nat} (g : GoodM m w h) {c d : Nat} (hc : c < w * h) (hd : d ∈ nx m c) : d < w * h ∧ 0 < zAt m.C d := by
  obtain ⟨h1, h2⟩ := (mem_nx g).1 hd
  exact ⟨((mem_near g.w1 hc).1 h1).1, h2⟩
theorem nx_sym {m : Mp} {w h : Nat} (g : GoodM m w h) {c d : Nat} (hc : c < w * h) (ho : 0 < zAt m.C c) (hd : d ∈ nx m c) : c ∈ nx m d := by
  have hl := (nx_lt g hc hd).1
  have h1 := (mem_near g.w1 hc).1 ((mem_nx g).1 hd).1
  refine (mem_nx g).2 ⟨(mem_near g.w1 hl).2 ⟨hc, ?_⟩, ho⟩
  rcases h1.2 with ⟨a, b⟩ | ⟨a, b⟩
  · exact .inl ⟨a.symm, b.symm⟩
  · exact .inr ⟨a.symm, b.symm⟩
theorem nx_length (m : Mp) (c : Nat) : (nx m c).length ≤ 4 := Nat.le_trans (List.length_filter_le _ _) (near_length _ _ _)

end Go.Proofs.Ytdfmfmndmldggaa.Lb

namespace Go.Proofs.Ytdfmfmndmldggaa.IntS
open Go.RowKit Lb
set_option linter.unusedSimpArgs false
set_option linter.unusedVariables false

theorem iInfo : (Try.prog.info? 3).map (fun i => (i.zero, i.size, i.bytes)) = some (some (.int .i64 0), 1, 8) := by kernel_rfl

/-- 'n' cells that hold the numbers of a list. -/
def IRow (w : World) (a : Option Addr) (zs : List Int) : Prop := RowAt w a zs.length (fun k => .int .i64 (zAt zs k))
def OwnI (w : World) (base : Nat) (v : Value) (zs : List Int) : Prop := w.ownsRow base 3 1 v zs.length (zs.map (Value.int .i64))

theorem OwnI.slice {w : World} {base : Nat} {v : Value} {zs : List Int} (h : OwnI w base v zs) :
    ∃ a cap, v = .slice a zs.length cap ∧ IRow w a zs ∧ ∀ x, a = some x → base ≤ x.block ∧ x.block < w.heap.size := by
  have h' := h
  unfold OwnI at h
  rcases h.2 with ⟨rfl, h0⟩ | ⟨g, cap, cur, rfl, hb, _⟩
  · exact ⟨none, 0, by rw [h0], .inl h0, fun x e => by cases e⟩
  · refine ⟨some ⟨g, 0, none⟩, cap, rfl, (RowAt.of_owns h).congr fun k hk => ?_, fun x e => ?_⟩
    · simp [zAt, hk]
    · cases e; exact h.lt g rfl
theorem grownBy_of_below {a b : World} (h : Below a.heap.size a b) (r : Option Nat) : a.grownBy b r := ⟨h.os, h.tape, h.output, h.size, fun k hk _ => h.block k hk⟩
theorem grownBy_trans {a b c : World} {r : Option Nat} (h : a.grownBy b r) (k : b.grownBy c r) : a.grownBy c r :=
  ⟨k.os.trans h.os, k.tape.trans h.tape, k.output.trans h.output, Nat.le_trans h.size k.size, fun i hi hr => (k.block i (Nat.lt_of_lt_of_le hi h.size) hr).trans (h.block i hi hr)⟩
theorem owns_below {w w' : World} {base : Nat} {e : TypeId} {size : Nat} {v : Value} {n : Nat} {xs : List Value} (h : w.ownsRow base e size v n xs) (hb : Below w.heap.size w w') : w'.ownsRow base e size v n xs :=
  h.kept (grownBy_of_below hb none) (by cases hv : v.ownBlock <;> simp)
theorem OwnI.below {w w' : World} {base : Nat} {v : Value} {zs : List Int} (h : OwnI w base v zs) (hb : Below w.heap.size w w') : OwnI w' base v zs := owns_below h hb
theorem OwnI.belowB {B : Nat} {w w' : World} {base : Nat} {v : Value} {zs : List Int} (h : OwnI w base v zs) (hb : Below B w w') (hB : w.heap.size ≤ B) : OwnI w' base v zs := owns_below h (hb.mono hB)
/-- A row stands in whatever grows beside it. -/
theorem row_beside {w w' : World} {a : Option Addr} {n : Nat} {f : Nat → Value} (h : RowAt w a n f) {r : Option Nat} (hb : w.grownBy w' r) (hr : ∀ x, a = some x → r ≠ some x.block) : RowAt w' a n f := by
  rcases h with h | ⟨b, o, rfl, hc⟩
  · exact .inl h
  · exact RowAt.grown (.inr ⟨b, o, rfl, hc⟩) hb (hr _ rfl)
theorem still_below {w w' : World} (h : Still w w') : Below w.heap.size w w' := h.below _
theorem rebase {w : World} {b b' : Nat} {e : TypeId} {size : Nat} {v : Value} {n : Nat} {xs : List Value} (h : w.ownsRow b e size v n xs) (hb : b' ≤ b) : w.ownsRow b' e size v n xs := by
  refine ⟨h.1, ?_⟩
  rcases h.2 with h2 | ⟨g, cap, cur, hv, hg, r⟩
  · exact .inl h2
  · exact .inr ⟨g, cap, cur, hv, Nat.le_trans hb hg, r⟩

set_option maxHeartbeats 1000000 in
theorem eq_same (a b : Option Addr) (cap cap' : Nat) (zs : List Int) (w : World) (hr : IRow w a zs) (hr' : IRow w b zs) (hl : zs.length ≤ maxLen) :
    Calls Try.prog 39 #[.slice a zs.length cap, .slice b zs.length cap'] w fun e w' => e = .returned (.bool true) ∧ Below w.heap.size w w' := by
  unfold maxLen at hl
  go_enter Try.func39, Try.ntmps39
  go_wp2
  go_loopw [5] (fun i wr => ∃ k : Nat, k ≤ zs.length ∧ i = .int .i64 k ∧ Still w wr) (fun i _ => zs.length - (intOf i).toNat)
  case atStart => exact ⟨0, Nat.zero_le _, rfl, Still.refl _⟩
  case round =>
    obtain ⟨k, hk, rfl, hst⟩ := hrel
    obtain ⟨n, rfl⟩ := hst
    by_cases hlt : k < zs.length
    · rcases hr with hr | ⟨b1, off1, rfl, hc1⟩
      · omega
      rcases hr' with hr' | ⟨b2, off2, rfl, hc2⟩
      · omega
      have g1 : w.cell? ⟨b1, off1 + k, none⟩ = some (.int .i64 (zAt zs k)) := hc1 k hlt
      have g2 : w.cell? ⟨b2, off2 + k, none⟩ = some (.int .i64 (zAt zs k)) := hc2 k hlt
      clear hc1 hc2
      go_wp2
      go_quiet (fail)
      go_wp2
      go_roundw
      case rel => exact ⟨k + 1, by omega, by go_num, ⟨_, rfl⟩⟩
      case measure => simp [intOf]; omega
    · go_wp2
      go_ret
      exact ⟨rfl, Still.below ⟨_, rfl⟩ _⟩

/-- The marks from a number on. -/
def markZ (k : Int) (n : Nat) : List Int := (List.range n).map fun (j : Nat) => k + (j : Int)
theorem markZ_length (k : Int) (n : Nat) : (markZ k n).length = n := by simp [markZ]
theorem markZ_at (k : Int) (n j : Nat) (h : j < n) : zAt (markZ k n) j = k + j := by simp [markZ, zAt, h]
def marks (k : Int) (zs : List Int) (i : Nat) : List Value := (markZ k i).map (Value.int .i64) ++ (zs.drop i).map (Value.int .i64)
theorem marks_zero (k : Int) (zs : List Int) : marks k zs 0 = zs.map (Value.int .i64) := by simp [marks, markZ]
theorem marks_at (k : Int) (zs : List Int) (i : Nat) (h : i < zs.length) : (marks k zs i)[i]? = some (.int .i64 (zAt zs i)) := by
  unfold marks
  rw [List.getElem?_append_right (by simp [markZ])]
  simp [markZ_length, h, zAt]
theorem marks_set (k : Int) (zs : List Int) (i : Nat) (h : i < zs.length) : (marks k zs i).set i (.int .i64 (k + i)) = marks k zs (i + 1) := by
  unfold marks
  rw [List.set_append_right _ _ (by simp [markZ_length])]
  simp only [List.length_map, markZ_length, Nat.sub_self]
  rw [List.drop_eq_getElem_cons h, List.map_cons, List.set_cons_zero]
  unfold markZ
  rw [List.range_succ]
  simp
theorem marks_all (k : Int) (zs : List Int) : marks k zs zs.length = (markZ k zs.length).map (Value.int .i64) := by simp [marks]

set_option maxHeartbeats 1000000 in
theorem mark_any (base : Nat) (a : Option Addr) (cap : Nat) (zs : List Int) (k : Int) (w : World) (hown : OwnI w base (.slice a zs.length cap) zs) (h0 : 0 ≤ k) (h1 : k + zs.length ≤ 9007199254740992) :
    Calls Try.prog 42 #[.slice a zs.length cap, .int .i64 k] w fun e w' => e = .returned (.int .i64 (k + zs.length)) ∧ OwnI w' base (.slice a zs.length cap) (markZ k zs.length) ∧ w.grownBy w' (Value.slice a zs.length cap).ownBlock := by
  have HA := Lib.hid (marks_all k zs)
  have HZ := Lib.hid (marks_zero k zs)
  unfold OwnI at hown ⊢
  go_enter Try.func42, Try.ntmps42
  go_wp2
  go_loopw [1, 5] (fun kk ii wr => ∃ i : Nat, i ≤ zs.length ∧ ii = .int .i64 i ∧ kk = .int .i64 (k + i) ∧ wr.ownsRow base 3 1 (.slice a zs.length cap) zs.length (marks k zs i) ∧ w.grownBy wr (Value.slice a zs.length cap).ownBlock) (fun _ ii _ => zs.length - (intOf ii).toNat)
  case atStart => exact ⟨0, Nat.zero_le _, rfl, by simp, by rw [HZ.out]; exact hown, World.grownBy.refl _ _⟩
  case round =>
    obtain ⟨i, hi, rfl, rfl, ho, hg⟩ := hrel
    by_cases hlt : i < zs.length
    · obtain ⟨g, rfl⟩ : ∃ g, a = some ⟨g, 0, none⟩ := by
        rcases ho.2 with ⟨_, h0⟩ | ⟨g, c, cur, hv, _⟩
        · omega
        · exact ⟨g, by simpa using (Value.slice.inj hv).1⟩
      have c1 : wr.cell? ⟨g, i, none⟩ = some (.int .i64 (zAt zs i)) := (ho.cellAt i (by omega)).trans (marks_at k zs i hlt)
      have f1 : wr.frozen? ⟨g, i, none⟩ = false := ho.frozenAt i
      have hs := ho.stored i (.int .i64 (k + i))
      rw [marks_set k zs i hlt] at hs
      have HS := Lib.hid hs.1
      have HG := Lib.hid (grownBy_trans hg hs.2)
      clear hs ho hg hown
      go_wp2
      go_roundw
      case rel => exact ⟨i + 1, by omega, by go_num, by go_num, HS.out, HG.out⟩
      case measure => simp [intOf]; omega
    · obtain rfl : i = zs.length := by omega
      rw [HA.out] at ho
      go_wp2
      go_ret
      exact ⟨rfl, by rw [markZ_length]; exact ho, hg⟩

set_option maxHeartbeats 1000000 in
theorem held_any (a : Option Addr) (cap n : Nat) (k : Int) (w : World) (hr : RowAt w a n (fun j => .int .i64 (k + j))) (h0 : 0 ≤ k) (h1 : k + n ≤ 9007199254740992) :
    Calls Try.prog 43 #[.slice a n cap, .int .i64 k] w fun e w' => e = .returned (.int .i64 (k + n)) ∧ w' = w := by
  go_enter Try.func43, Try.ntmps43
  go_wp2
  go_loop [1, 5] (fun kk ii => ∃ i : Nat, i ≤ n ∧ ii = .int .i64 i ∧ kk = .int .i64 (k + i)) (fun _ ii => n - (intOf ii).toNat)
  case atStart => exact ⟨0, Nat.zero_le _, rfl, by simp⟩
  case round =>
    obtain ⟨i, hi, rfl, rfl⟩ := hrel
    by_cases hlt : i < n
    · rcases hr with hr | ⟨b, off, rfl, hc⟩
      · omega
      have c1 : w.cell? ⟨b, off + i, none⟩ = some (.int .i64 (k + i)) := hc i hlt
      clear hc
      go_wp2
      go_round
      case rel => exact ⟨i + 1, by omega, by go_num, by go_num⟩
      case measure => simp [intOf]; omega
    · obtain rfl : i = n := by omega
      go_wp2
      go_ret
      exact ⟨rfl, rfl⟩

end Go.Proofs.Ytdfmfmndmldggaa.IntS

namespace Go.Proofs.Ytdfmfmndmldggaa.IntS
open Go.RowKit Lb
set_option linter.unusedSimpArgs false
set_option linter.unusedVariables false

set_option maxHeartbeats 400000 in
theorem sz_no (a : Option Addr) (cap n : Nat) (left : Int) (w : World) (hl : n ≤ maxLen) (h0 : 0 ≤ left) (h1 : left ≤ 1048576) (h : left - n < 0) :
    Calls Try.prog 69 #[.slice a n cap, .int .i64 left] w fun e w' => e = .returned (.int .i64 (-1)) ∧ w' = w := by
  unfold maxLen at hl
  go_enter Try.func69, Try.ntmps69
  go_wp2
  go_ret
  exact ⟨rfl, rfl⟩
set_option maxHeartbeats 400000 in
theorem sz_yes (a : Option Addr) (cap n : Nat) (left : Int) (w : World) (hl : n ≤ maxLen) (h1 : left ≤ 1048576) (h : 0 ≤ left - n) :
    Calls Try.prog 69 #[.slice a n cap, .int .i64 left] w fun e w' => e = .returned (.int .i64 (left - n)) ∧ w' = w := by
  unfold maxLen at hl
  go_enter Try.func69, Try.ntmps69
  go_wp2
  go_ret
  exact ⟨rfl, rfl⟩

/-- The first 'k' numbers are there, behind them zeros. -/
def upTo (zs : List Int) (k : Nat) : List Value := (zs.take k).map (Value.int .i64) ++ List.replicate (zs.length - k) (.int .i64 0)
theorem upTo_zero (zs : List Int) : upTo zs 0 = List.replicate zs.length (.int .i64 0) := by simp [upTo]
theorem upTo_all (zs : List Int) : upTo zs zs.length = zs.map (Value.int .i64) := by simp [upTo]
theorem upTo_length (zs : List Int) (k : Nat) (h : k ≤ zs.length) : (upTo zs k).length = zs.length := by simp [upTo]; omega
theorem upTo_at (zs : List Int) (k : Nat) (h : k < zs.length) : (upTo zs k)[k]? = some (.int .i64 0) := by
  unfold upTo
  have e : ((zs.take k).map (Value.int .i64)).length = k := by simp; omega
  rw [List.getElem?_append_right (by omega), e, Nat.sub_self, List.getElem?_replicate, if_pos (by omega)]
theorem upTo_set (zs : List Int) (k : Nat) (h : k < zs.length) : (upTo zs k).set k (.int .i64 (zAt zs k)) = upTo zs (k + 1) := by
  unfold upTo
  rw [List.set_append_right _ _ (by simp; omega), zAt_take zs k h]
  have e : zs.length - k = (zs.length - (k + 1)) + 1 := by omega
  rw [e, List.replicate_succ]
  simp [Nat.min_eq_left (Nat.le_of_lt h)]

set_option maxHeartbeats 1000000 in
theorem to_any (a : Option Addr) (cap : Nat) (zs : List Int) (w : World) (hr : IRow w a zs) (hl : zs.length ≤ 1048576) :
    Calls Try.prog 36 #[.slice a zs.length cap] w fun e w' => (∃ v, e = .returned v ∧ OwnI w' w.heap.size v zs) ∧ Below w.heap.size w w' := by
  obtain ⟨i0, hi, hz0, hz1, hz2⟩ := info_parts iInfo
  have HU := Lib.hid (upTo_zero zs)
  have HA := Lib.hid (upTo_all zs)
  go_enter Try.func36, Try.ntmps36
  go_wp2_with (at_make; refine wpList_make_full _ rfl _ _ 24 rfl w.heap.size 3 i0 (.int .i64 0) 1 Try.underlying24 hi hz0 hz1 .i64 .i64 _ _ zs.length rfl rfl rfl rfl ?b2 ?b3 (Nat.le_refl _) ?_)
  case b2 => rw [hz2]; omega
  case b3 => unfold maxLen; omega
  intro w1 hown hgr
  have hw1 := Lib.hid (show w1.ownsRow w.heap.size 3 1 (.slice (some ⟨w.heap.size, 0, none⟩) zs.length zs.length) zs.length (upTo zs 0) from by
    rw [HU.out]
    have := hown
    rwa [toList_madeCells_one] at this)
  have hb1 := Lib.hid (show Below w.heap.size w w1 from (Below.refl _ _).grown hgr (Nat.le_refl _) (fun k e => by cases e))
  clear hown hgr
  go_wp2
  go_loopw [4] (fun i wr => ∃ k : Nat, k ≤ zs.length ∧ i = .int .i64 k ∧ wr.ownsRow w.heap.size 3 1 (.slice (some ⟨w.heap.size, 0, none⟩) zs.length zs.length) zs.length (upTo zs k) ∧ Below w.heap.size w wr) (fun i _ => zs.length - (intOf i).toNat)
  case atStart => exact ⟨0, Nat.zero_le _, rfl, hw1.out, hb1.out⟩
  case round =>
    obtain ⟨k, hk, rfl, ho, hb⟩ := hrel
    by_cases hlt : k < zs.length
    · have hr1 := RowAt.below hr hb
      rcases hr1 with hr1 | ⟨b, off, rfl, hc⟩
      · omega
      have c1 : wr.cell? ⟨b, off + k, none⟩ = some (.int .i64 (zAt zs k)) := hc k hlt
      have c2 : wr.cell? ⟨w.heap.size, k, none⟩ = some (.int .i64 0) := (ho.cellAt k (by omega)).trans (upTo_at zs k hlt)
      have f2 : wr.frozen? ⟨w.heap.size, k, none⟩ = false := ho.frozenAt k
      have hs := ho.stored k (.int .i64 (zAt zs k))
      rw [upTo_set zs k hlt] at hs
      have HS := Lib.hid hs.1
      have HB := Lib.hid (hb.setCell (p := ⟨w.heap.size, k, none⟩) (Nat.le_refl _) (.int .i64 (zAt zs k)))
      clear hs hc ho hb
      go_wp2
      go_roundw
      case rel => exact ⟨k + 1, by omega, by go_num, HS.out, HB.out⟩
      case measure => simp [intOf]; omega
    · obtain rfl : k = zs.length := by omega
      rw [HA.out] at ho
      go_wp2
      go_ret
      exact ⟨⟨_, rfl, ho⟩, hb⟩

end Go.Proofs.Ytdfmfmndmldggaa.IntS

namespace Go.Proofs.Ytdfmfmndmldggaa.MapS
open Go.RowKit Lb IntS
set_option linter.unusedSimpArgs false
set_option linter.unusedVariables false

/-- A map in memory of the call's own. -/
def OwnM (w : World) (base : Nat) (v : Value) (m : Mp) : Prop :=
  ∃ a ca b cb, v = .agg #[.int .i64 m.W, .int .i64 m.H, .slice a m.R.length ca, .slice b m.C.length cb] ∧ OwnI w base (.slice a m.R.length ca) m.R ∧ OwnI w base (.slice b m.C.length cb) m.C ∧ ∀ x y, a = some x → b = some y → x.block ≠ y.block

/-- A map that can be read. -/
def MapAt (w : World) (v : Value) (m : Mp) : Prop := ∃ a ca b cb, v = .agg #[.int .i64 m.W, .int .i64 m.H, .slice a m.R.length ca, .slice b m.C.length cb] ∧ IRow w a m.R ∧ IRow w b m.C

theorem OwnI.row {w : World} {base : Nat} {a : Option Addr} {cap : Nat} {zs : List Int} (h : OwnI w base (.slice a zs.length cap) zs) : IRow w a zs := by
  obtain ⟨a', c', e, hr, _⟩ := OwnI.slice h
  cases e; exact hr
theorem OwnI.lt {w : World} {base : Nat} {a : Option Addr} {cap n : Nat} {zs : List Int} (h : OwnI w base (.slice a n cap) zs) : ∀ x, a = some x → base ≤ x.block ∧ x.block < w.heap.size := by
  obtain ⟨a', c', e, _, hk⟩ := OwnI.slice h
  cases e; exact hk
theorem OwnM.at_ {w : World} {base : Nat} {v : Value} {m : Mp} (h : OwnM w base v m) : MapAt w v m := by
  obtain ⟨a, ca, b, cb, rfl, h1, h2, _⟩ := h
  exact ⟨a, ca, b, cb, rfl, OwnI.row h1, OwnI.row h2⟩
theorem OwnM.below {B : Nat} {w w' : World} {base : Nat} {v : Value} {m : Mp} (h : OwnM w base v m) (hb : Below B w w') (hB : w.heap.size ≤ B) : OwnM w' base v m := by
  obtain ⟨a, ca, b, cb, rfl, h1, h2, h3⟩ := h
  exact ⟨a, ca, b, cb, rfl, OwnI.belowB h1 hb hB, OwnI.belowB h2 hb hB, h3⟩
theorem MapAt.below {B : Nat} {w w' : World} {v : Value} {m : Mp} (h : MapAt w v m) (hb : Below B w w') (hB : w.heap.size ≤ B) : MapAt w' v m := by
  obtain ⟨a, ca, b, cb, rfl, h1, h2⟩ := h
  exact ⟨a, ca, b, cb, rfl, RowAt.belowB h1 hb hB, RowAt.belowB h2 hb hB⟩

theorem bcell {W w1 : World} (hb : Below W.heap.size W w1) : (∀ b o, b < W.heap.size → w1.cell? ⟨b, o, none⟩ = W.cell? ⟨b, o, none⟩) ∧ (∀ b o, b < W.heap.size → w1.frozen? ⟨b, o, none⟩ = W.frozen? ⟨b, o, none⟩) :=
  ⟨fun b o h => hb.cell (p := ⟨b, o, none⟩) h, fun b o h => hb.frozen (p := ⟨b, o, none⟩) h⟩

/-- A block known whole. -/
def Blk (w : World) (g : Nat) (t : TypeId) (cs : Array Value) : Prop := w.heap[g]? = some (.cells cs t (0, 0))
theorem Blk.lt {w : World} {g : Nat} {t : TypeId} {cs : Array Value} (h : Blk w g t cs) : g < w.heap.size := by
  rcases Nat.lt_or_ge g w.heap.size with hlt | hge
  · exact hlt
  · unfold Blk at h; rw [Array.getElem?_eq_none hge] at h; cases h
theorem Blk.new (w : World) (t : TypeId) (cs : Array Value) : Blk (w.alloc (.cells cs t)) w.heap.size t cs := heap_alloc_new w _
theorem Blk.alloc {w : World} {g : Nat} {t : TypeId} {cs : Array Value} (h : Blk w g t cs) (o : Obj) : Blk (w.alloc o) g t cs := (Below.heap_alloc w o g h.lt).trans h
theorem Blk.set_ {w : World} {g : Nat} {t : TypeId} {cs : Array Value} (h : Blk w g t cs) (i : Nat) (u : Value) : Blk (w.setCell ⟨g, i, none⟩ u) g t (cs.setIfInBounds i u) := by
  unfold Blk at h ⊢
  simp [World.setCell, Array.getElem?_modify, h]
theorem Blk.far {w : World} {g : Nat} {t : TypeId} {cs : Array Value} (h : Blk w g t cs) {p : Addr} (hp : g ≠ p.block) (u : Value) : Blk (w.setCell p u) g t cs := (Below.heap_setCell w p u g hp).trans h
theorem Blk.below {B : Nat} {w w' : World} {g : Nat} {t : TypeId} {cs : Array Value} (h : Blk w g t cs) (hb : Below B w w') (hg : g < B) : Blk w' g t cs := (hb.block g hg).trans h
theorem Blk.later {w w' : World} {g : Nat} {t : TypeId} {cs : Array Value} (h : Blk w g t cs) (hb : Below w.heap.size w w') : Blk w' g t cs := h.below hb h.lt
theorem Blk.four {w : World} {g : Nat} {t : TypeId} {x0 x1 x2 x3 : Value} (h : Blk w g t #[x0, x1, x2, x3]) :
    w.cell? ⟨g, 0, none⟩ = some x0 ∧ w.cell? ⟨g, 1, none⟩ = some x1 ∧ w.cell? ⟨g, 2, none⟩ = some x2 ∧ w.cell? ⟨g, 3, none⟩ = some x3 ∧ w.frozen? ⟨g, 0, none⟩ = false ∧ w.frozen? ⟨g, 1, none⟩ = false ∧ w.frozen? ⟨g, 2, none⟩ = false ∧ w.frozen? ⟨g, 3, none⟩ = false := by
  unfold Blk at h
  simp [World.cell?, World.frozen?, h]
theorem Blk.one {w : World} {g : Nat} {t : TypeId} {x : Value} (h : Blk w g t #[x]) : w.cell? ⟨g, 0, none⟩ = some x ∧ w.frozen? ⟨g, 0, none⟩ = false := by
  unfold Blk at h
  simp [World.cell?, World.frozen?, h]

set_option maxHeartbeats 400000 in
theorem sz_no (m : Mp) (a b : Option Addr) (ca cb : Nat) (w : World) (hR : m.R.length ≤ maxLen) (hC : m.C.length ≤ maxLen) (h : 1048576 < m.R.length + m.C.length) :
    Calls Try.prog 31 #[.agg #[.int .i64 m.W, .int .i64 m.H, .slice a m.R.length ca, .slice b m.C.length cb], .int .i64 1048576] w fun e w' => e = .returned (.int .i64 (-1)) ∧ Below w.heap.size w w' := by
  have hR' := hR
  have hC' := hC
  unfold maxLen at hR' hC'
  by_cases h1 : (1048576 : Int) - m.R.length < 0
  · go_enter Try.func31, Try.ntmps31
    go_wp2_with (go_at_call 69; refine (IntS.sz_no _ _ _ _ _ hR (by omega) (by omega) h1).mono ?_; rintro e w' ⟨rfl, rfl⟩)
    go_ret
    exact ⟨rfl, (Below.refl _ _).alloc (Nat.le_refl _) _⟩
  · have h2 : (1048576 : Int) - m.R.length - m.C.length < 0 := by omega
    have h1' : 0 ≤ (1048576 : Int) - m.R.length := by omega
    go_enter Try.func31, Try.ntmps31
    go_wp2_with fail
    refine (IntS.sz_yes _ _ _ _ _ hR (by omega) h1').mono ?_
    rintro e w' ⟨rfl, rfl⟩
    go_wp2_with fail
    refine (IntS.sz_no _ _ _ _ _ hC h1' (by omega) h2).mono ?_
    rintro e w' ⟨rfl, rfl⟩
    go_wp2
    go_ret
    exact ⟨rfl, (Below.refl _ _).alloc (Nat.le_refl _) _⟩

set_option maxHeartbeats 400000 in
theorem sz_yes (m : Mp) (a b : Option Addr) (ca cb : Nat) (w : World) (h : m.R.length + m.C.length ≤ 1048576) :
    Calls Try.prog 31 #[.agg #[.int .i64 m.W, .int .i64 m.H, .slice a m.R.length ca, .slice b m.C.length cb], .int .i64 1048576] w fun e w' => e = .returned (.int .i64 (1048576 - m.R.length - m.C.length)) ∧ Below w.heap.size w w' := by
  have hR : m.R.length ≤ maxLen := by unfold maxLen; omega
  have hC : m.C.length ≤ maxLen := by unfold maxLen; omega
  have h2 : 0 ≤ (1048576 : Int) - m.R.length - m.C.length := by omega
  have h1' : 0 ≤ (1048576 : Int) - m.R.length := by omega
  go_enter Try.func31, Try.ntmps31
  go_wp2_with fail
  refine (IntS.sz_yes _ _ _ _ _ hR (by omega) h1').mono ?_
  rintro e w' ⟨rfl, rfl⟩
  go_wp2_with fail
  refine (IntS.sz_yes _ _ _ _ _ hC (by omega) h2).mono ?_
  rintro e w' ⟨rfl, rfl⟩
  go_wp2
  go_ret
  exact ⟨rfl, (Below.refl _ _).alloc (Nat.le_refl _) _⟩

set_option maxHeartbeats 1000000 in
theorem to_any (m : Mp) (a b : Option Addr) (ca cb : Nat) (w : World) (hr : IRow w a m.R) (hc : IRow w b m.C) (h : m.R.length + m.C.length ≤ 1048576) :
    Calls Try.prog 34 #[.agg #[.int .i64 m.W, .int .i64 m.H, .slice a m.R.length ca, .slice b m.C.length cb]] w fun e w' => (∃ v, e = .returned v ∧ OwnM w' w.heap.size v m) ∧ Below w.heap.size w w' := by
  go_enter Try.func34, Try.ntmps34
  go_wp2_with fail
  refine (IntS.to_any a ca m.R _ (RowAt.below hr (((Below.refl _ _).alloc (Nat.le_refl _) _ |>.alloc (by simp) _).alloc (by simp; omega) _)) (by omega)).mono ?_
  rintro e w1 ⟨⟨v1, rfl, ho1⟩, hb1⟩
  obtain ⟨a1, c1, rfl, -, -⟩ := OwnI.slice ho1
  have B0 := (((Blk.new w 38 #[.int .i64 m.W, .int .i64 m.H, .slice a m.R.length ca, .slice b m.C.length cb]).alloc _).alloc _).later hb1
  have B1 := ((Blk.new (w.alloc (.cells #[.int .i64 m.W, .int .i64 m.H, .slice a m.R.length ca, .slice b m.C.length cb] 38)) 26 #[.int .i64 0, .int .i64 0, .slice none 0 0, .slice none 0 0]).alloc _).later hb1
  have B2 := (Blk.new ((w.alloc (.cells #[.int .i64 m.W, .int .i64 m.H, .slice a m.R.length ca, .slice b m.C.length cb] 38)).alloc (.cells #[.int .i64 0, .int .i64 0, .slice none 0 0, .slice none 0 0] 26)) 26 #[.int .i64 m.W, .int .i64 m.H, .slice none 0 0, .slice none 0 0]).later hb1
  simp only [World.size_alloc] at B1 B2
  have hz := hb1.size
  simp only [World.size_alloc] at hz
  have HO1 := Lib.hid ho1
  have HB1 := Lib.hid (show Below w.heap.size w w1 from ((((Below.refl _ _).alloc (Nat.le_refl _) _).alloc (by simp) _).alloc (by simp; omega) _).trans (hb1.mono (by simp; omega)))
  clear ho1 hb1
  obtain ⟨p0, p1, p2, p3, -⟩ := B0.four
  obtain ⟨q0, q1, q2, q3, g0, g1, g2, g3⟩ := B1.four
  obtain ⟨r0, r1, r2, r3, f0, f1, f2, f3⟩ := B2.four
  go_wp2_with fail
  clear p0 p1 p2 p3 q0 q1 q2 q3 g0 g1 g2 g3 r0 r1 r2 r3 f0 f1 f2 f3
  refine (IntS.to_any b cb m.C _ (RowAt.below hc (HB1.out.setCell (by simp; omega) _)) (by omega)).mono ?_
  rintro e w2 ⟨⟨v2, rfl, ho2⟩, hb2⟩
  obtain ⟨a2, c2, rfl, -, -⟩ := OwnI.slice ho2
  have B1' := (B1.far (p := ⟨w.heap.size + 1 + 1, 2, none⟩) (by simp) (.slice a1 m.R.length c1)).later hb2
  have B2' := (B2.set_ 2 (.slice a1 m.R.length c1)).later hb2
  simp only [List.setIfInBounds_toArray, List.set_cons_succ, List.set_cons_zero] at B2'
  have hz2 := hb2.size
  simp only [World.size_setCell] at hz2
  have HO2 := Lib.hid ho2
  have HB2 := Lib.hid hb2
  clear ho2 hb2
  have HQ1 := Lib.hid B1'
  have HQ2 := Lib.hid B2'
  obtain ⟨q0, q1, q2, q3, g0, g1, g2, g3⟩ := B1'.four
  obtain ⟨r0, r1, r2, r3, f0, f1, f2, f3⟩ := B2'.four
  clear B0 B1 B2 B1' B2'
  go_wp2_with fail
  refine bodyPost_ret (v := .agg #[.int .i64 m.W, .int .i64 m.H, .slice a1 m.R.length c1, .slice a2 m.C.length c2]) (by simp [results, Try.results34, go_sem, q0, q1, q2, q3, r0, r1, r2, r3]) rfl ⟨⟨_, rfl, a1, c1, a2, c2, rfl, ?_, ?_, ?_⟩, ?_⟩
  · refine rebase (b := w.heap.size + 1 + 1 + 1) ?_ (by omega)
    have o1 := HO1.out
    simp only [OwnI, World.size_alloc] at o1
    have o2 := owns_below (ownsRow_setCell_below o1 (a := ⟨w.heap.size + 1 + 1, 2, none⟩) (by simp) (.slice a1 m.R.length c1)) HB2.out
    repeat (refine ownsRow_setCell_below ?_ (by simp) _)
    exact o2
  · refine rebase (b := w1.heap.size) ?_ (by omega)
    have o1 := HO2.out
    simp only [OwnI, World.size_setCell] at o1
    repeat (refine ownsRow_setCell_below ?_ (by simp; omega) _)
    exact o1
  · intro x y hx hy
    have h1 := (OwnI.lt HO1.out x hx).2
    have h2 := (OwnI.lt HO2.out y hy).1
    simp only [World.size_setCell] at h2
    omega
  · have hb := (HB1.out.setCell (p := ⟨w.heap.size + 1 + 1, 2, none⟩) (by simp; omega) (.slice a1 m.R.length c1)).trans (HB2.out.mono (by simp; omega))
    repeat (refine Below.setCell ?_ (by simp <;> omega) _)
    exact hb

/-- What has turned lies in blocks from 'lo' to 'hi', and in new ones. -/
structure Chg (lo hi : Nat) (w w' : World) : Prop where
  os : w'.os = w.os
  tape : w'.tape = w.tape
  output : w'.output = w.output
  size : w.heap.size ≤ w'.heap.size
  block : ∀ k, k < w.heap.size → (k < lo ∨ hi ≤ k) → w'.heap[k]? = w.heap[k]?
theorem Chg.refl (lo hi : Nat) (w : World) : Chg lo hi w w := ⟨rfl, rfl, rfl, Nat.le_refl _, fun _ _ _ => rfl⟩
theorem Chg.trans {lo hi : Nat} {a b c : World} (h : Chg lo hi a b) (k : Chg lo hi b c) : Chg lo hi a c :=
  ⟨k.os.trans h.os, k.tape.trans h.tape, k.output.trans h.output, Nat.le_trans h.size k.size, fun i hi hr => (k.block i (Nat.lt_of_lt_of_le hi h.size) hr).trans (h.block i hi hr)⟩
theorem Chg.of_below {a b : World} (h : Below a.heap.size a b) (lo hi : Nat) : Chg lo hi a b := ⟨h.os, h.tape, h.output, h.size, fun k hk _ => h.block k hk⟩
theorem Chg.of_grown {a b : World} {r : Option Nat} {lo hi : Nat} (h : a.grownBy b r) (hr : ∀ k, r = some k → lo ≤ k ∧ k < hi) : Chg lo hi a b :=
  ⟨h.os, h.tape, h.output, h.size, fun k hk hc => h.block k hk (fun e => by have := hr k e.symm; omega)⟩
theorem Chg.below {a b : World} {lo hi : Nat} (h : Chg lo hi a b) (hB : lo ≤ a.heap.size) : Below lo a b := ⟨h.os, h.tape, h.output, h.size, fun k hk => h.block k (by omega) (.inl hk)⟩
theorem Chg.row {a b : World} {lo hi : Nat} (h : Chg lo hi a b) {x : Option Addr} {n : Nat} {f : Nat → Value} (hr : RowAt a x n f) (hx : ∀ p, x = some p → p.block < lo ∨ hi ≤ p.block) : RowAt b x n f := by
  rcases hr with h0 | ⟨g, o, rfl, hc⟩
  · exact .inl h0
  · refine .inr ⟨g, o, rfl, fun k hk => ?_⟩
    have hl := World.block_lt_of_cell? a _ (hc k hk)
    exact (World.cell?_of_block (h.block g hl (hx _ rfl))).trans (hc k hk)
theorem Chg.own {a b : World} {lo hi base : Nat} (h : Chg lo hi a b) {x : Option Addr} {n cap : Nat} {zs : List Int} (hr : OwnI a base (.slice x n cap) zs) (hx : ∀ p, x = some p → p.block < lo ∨ hi ≤ p.block) : OwnI b base (.slice x n cap) zs := by
  have hlt := OwnI.lt hr
  unfold OwnI at hr ⊢
  refine ⟨hr.1, ?_⟩
  rcases hr.2 with h2 | ⟨g, c, cur, hv, hg, hh, r⟩
  · exact .inl h2
  · refine .inr ⟨g, c, cur, hv, hg, ?_, r⟩
    have e : x = some ⟨g, 0, none⟩ := (Value.slice.inj hv).1
    exact (h.block g (hlt _ e).2 (hx _ e)).trans hh

/-- The map after marking. -/
def markM (m : Mp) : Mp := ⟨m.W, m.H, markZ 1 m.R.length, markZ (1 + m.R.length) m.C.length⟩

set_option maxHeartbeats 400000 in
theorem eq_same (m : Mp) (a b a' b' : Option Addr) (ca cb ca' cb' : Nat) (w : World) (h1 : IRow w a m.R) (h2 : IRow w b m.C) (h3 : IRow w a' m.R) (h4 : IRow w b' m.C) (hR : m.R.length ≤ maxLen) (hC : m.C.length ≤ maxLen) :
    Calls Try.prog 37 #[.agg #[.int .i64 m.W, .int .i64 m.H, .slice a m.R.length ca, .slice b m.C.length cb], .agg #[.int .i64 m.W, .int .i64 m.H, .slice a' m.R.length ca', .slice b' m.C.length cb']] w fun e w' => e = .returned (.bool true) ∧ Below w.heap.size w w' := by
  have HB := Lib.hid (fun o o' => ((Below.refl w.heap.size w).alloc (Nat.le_refl _) o).alloc (by simp) o')
  go_enter Try.func37, Try.ntmps37
  go_wp2_with fail
  refine (IntS.eq_same _ _ _ _ m.R _ (RowAt.below h1 (HB.out _ _)) (RowAt.below h3 (HB.out _ _)) hR).mono ?_
  rintro e w1 ⟨rfl, hb1⟩
  have B0 := ((Blk.new w 26 #[.int .i64 m.W, .int .i64 m.H, .slice a m.R.length ca, .slice b m.C.length cb]).alloc (.cells #[.int .i64 m.W, .int .i64 m.H, .slice a' m.R.length ca', .slice b' m.C.length cb'] 26)).later hb1
  have B1 := (Blk.new (w.alloc (.cells #[.int .i64 m.W, .int .i64 m.H, .slice a m.R.length ca, .slice b m.C.length cb] 26)) 26 #[.int .i64 m.W, .int .i64 m.H, .slice a' m.R.length ca', .slice b' m.C.length cb']).later hb1
  simp only [World.size_alloc] at B1
  have HB1 := Lib.hid ((HB.out _ _).trans (hb1.mono (by simp; omega)))
  clear hb1
  obtain ⟨p0, p1, p2, p3, -⟩ := B0.four
  obtain ⟨q0, q1, q2, q3, -⟩ := B1.four
  go_wp2_with fail
  refine (IntS.eq_same _ _ _ _ m.C _ (RowAt.below h2 HB1.out) (RowAt.below h4 HB1.out) hC).mono ?_
  rintro e w2 ⟨rfl, hb2⟩
  go_wp2
  go_ret
  exact ⟨rfl, HB1.out.trans (hb2.mono HB1.out.size)⟩

set_option maxHeartbeats 1000000 in
theorem mark_any (m : Mp) (a b : Option Addr) (ca cb base hi : Nat) (w w0 : World) (ha : OwnI w base (.slice a m.R.length ca) m.R) (hb : OwnI w base (.slice b m.C.length cb) m.C) (hne : ∀ x y, a = some x → b = some y → x.block ≠ y.block)
    (hha : ∀ x, a = some x → x.block < hi) (hhb : ∀ x, b = some x → x.block < hi) (h : m.R.length + m.C.length ≤ 1048576) (hbase : base ≤ w.heap.size) :
    Calls Try.prog 40 #[.agg #[.int .i64 m.W, .int .i64 m.H, .slice a m.R.length ca, .slice b m.C.length cb], .int .i64 1] w fun e w' => e = .returned (.int .i64 (1 + m.R.length + m.C.length)) ∧ OwnI w' base (.slice a m.R.length ca) (markM m).R ∧ OwnI w' base (.slice b m.C.length cb) (markM m).C ∧ Chg base hi w w' := by
  have hka := OwnI.lt ha
  have hkb := OwnI.lt hb
  have HA := Lib.hid ha
  have HC := Lib.hid hb
  have HN := Lib.hid hne
  have HI := Lib.hid hha
  have HJ := Lib.hid hhb
  have HK := Lib.hid hka
  have HL := Lib.hid hkb
  clear ha hb hne hha hhb hka hkb
  go_enter Try.func40, Try.ntmps40
  go_wp2_with fail
  refine (IntS.mark_any base a ca m.R 1 _ (HA.out.belowB ((Below.refl _ _).alloc (Nat.le_refl _) _) (Nat.le_refl _)) (by omega) (by omega)).mono ?_
  rintro e w1 ⟨rfl, hm1, hg1⟩
  have hc0 : Chg base hi w (w.alloc (.cells #[.int .i64 m.W, .int .i64 m.H, .slice a m.R.length ca, .slice b m.C.length cb] 26)) := Chg.of_below ((Below.refl _ _).alloc (Nat.le_refl _) _) _ _
  have hc1 := hc0.trans (Chg.of_grown hg1 (fun k e => by
    cases a with
    | none => cases e
    | some x =>
      obtain rfl : x.block = k := by simpa [Value.ownBlock] using e
      exact ⟨(HK.out x rfl).1, HI.out x rfl⟩))
  have B0 : Blk w1 w.heap.size 26 #[.int .i64 m.W, .int .i64 m.H, .slice a m.R.length ca, .slice b m.C.length cb] := by
    refine (hg1.block w.heap.size (by simp) (fun e => ?_)).trans (Blk.new w 26 _)
    cases a with
    | none => cases e
    | some x =>
      have h1 : w.heap.size = x.block := by simpa [Value.ownBlock] using e
      have h2 := (HK.out x rfl).2
      omega
  have HC1 : OwnI w1 base (.slice b m.C.length cb) m.C := by
    have hb0 := HC.out.belowB ((Below.refl w.heap.size w).alloc (Nat.le_refl _) (.cells #[.int .i64 m.W, .int .i64 m.H, .slice a m.R.length ca, .slice b m.C.length cb] 26)) (Nat.le_refl _)
    refine World.ownsRow.kept hb0 hg1 ?_
    cases b with
    | none => exact .inl rfl
    | some y =>
      refine .inr (fun e => ?_)
      cases a with
      | none => cases e
      | some x => exact HN.out x y rfl rfl (by simpa [Value.ownBlock] using e.symm)
  have H1 := Lib.hid hm1
  have H2 := Lib.hid hc1
  have H3 := Lib.hid HC1
  clear hm1 hc1 HC1 hg1 hc0
  obtain ⟨p0, p1, p2, p3, -⟩ := B0.four
  go_wp2_with fail
  refine (IntS.mark_any base b cb m.C _ _ H3.out (by omega) (by omega)).mono ?_
  rintro e w2 ⟨rfl, hm2, hg2⟩
  have HA2 : OwnI w2 base (.slice a m.R.length ca) (markZ 1 m.R.length) := by
    refine World.ownsRow.kept H1.out hg2 ?_
    cases a with
    | none => exact .inl rfl
    | some x =>
      refine .inr (fun e => ?_)
      cases b with
      | none => cases e
      | some y => exact HN.out x y rfl rfl (by simpa [Value.ownBlock] using e)
  have H4 := Lib.hid (H2.out.trans (Chg.of_grown hg2 (fun k e => by
    cases b with
    | none => cases e
    | some x =>
      obtain rfl : x.block = k := by simpa [Value.ownBlock] using e
      exact ⟨(HL.out x rfl).1, HJ.out x rfl⟩)))
  have H5 := Lib.hid hm2
  have H6 := Lib.hid HA2
  clear hm2 HA2 hg2
  go_wp2
  go_ret
  exact ⟨rfl, H6.out, H5.out, H4.out⟩

end Go.Proofs.Ytdfmfmndmldggaa.MapS

namespace Go.Proofs.Ytdfmfmndmldggaa.Lb
open Go.RowKit

def hasB (s : ByteArray) (c : UInt8) : Bool := s.data.toList.contains c

theorem hasB_at {s : ByteArray} {c : UInt8} (k : Nat) (h : k < s.size) (e : s[k] = c) : hasB s c = true := by
  unfold hasB
  rw [List.contains_iff_mem]
  subst e
  exact Array.getElem_mem_toList h

theorem hasB_none {s : ByteArray} {c : UInt8} (h : ∀ i (hi : i < s.size), s[i] ≠ c) : hasB s c = false := by
  unfold hasB
  rw [Bool.eq_false_iff]
  intro hc
  rw [List.contains_iff_mem] at hc
  obtain ⟨i, hi, e⟩ := List.mem_iff_getElem.1 hc
  exact h i (by simpa using hi) e

theorem hasB_no {s : ByteArray} {c : UInt8} (h : hasB s c = false) (k : Nat) (hk : k < s.size) : s[k] ≠ c := by
  intro e
  rw [hasB_at k hk e] at h
  cases h

theorem u8_beq_yes {a b : UInt8} (h : a = b) : ((a.toNat : Int) == (b.toNat : Int)) = true := by subst h; simp
theorem u8_beq_no {a b : UInt8} (h : a ≠ b) : ((a.toNat : Int) == (b.toNat : Int)) = false := by
  simp only [beq_eq_false_iff_ne, ne_eq, Int.natCast_inj]
  exact fun e => h (UInt8.toNat_inj.1 e)

/-- The first 'k' strings, joined, as the model's text builds it. -/
def jn (sep : ByteArray) (ss : List ByteArray) : Nat → ByteArray
  | 0 => ByteArray.empty
  | 1 => sAt ss 0
  | k + 2 => jn sep ss (k + 1) ++ sep ++ sAt ss (k + 1)

theorem jn_succ (sep : ByteArray) (ss : List ByteArray) (k : Nat) (h : 0 < k) : jn sep ss (k + 1) = jn sep ss k ++ sep ++ sAt ss k := by
  cases k with
  | zero => omega
  | succ k => rfl

theorem size_append' (a b : ByteArray) : (a ++ b).size = a.size + b.size := ByteArray.size_append

theorem jn_size (sep : ByteArray) (ss : List ByteArray) (hsep : sep.size = 1) : ∀ k, k ≤ ss.length → (jn sep ss k).size = total (ss.take k) + (k - 1)
  | 0, _ => by simp [jn, total]
  | 1, h => by rw [total_take ss 0 (by omega)]; simp [jn, total]
  | k + 2, h => by
    rw [jn_succ sep ss (k + 1) (by omega), size_append', size_append', jn_size sep ss hsep (k + 1) (by omega), hsep, total_take ss (k + 1) (by omega)]
    omega

theorem join_snoc (xs : List (List UInt8)) (x sep : List UInt8) (h : xs ≠ []) : Lib.join (xs ++ [x]) sep = Lib.join xs sep ++ sep ++ x := by
  cases xs with
  | nil => exact absurd rfl h
  | cons y r => rw [List.cons_append, Lib.join_cons, Lib.join_cons]; simp [Lib.joinTail, List.append_assoc]

theorem jn_data (sep : ByteArray) (ss : List ByteArray) : ∀ k, k ≤ ss.length → (jn sep ss k).data.toList = Lib.join ((ss.take k).map (·.data.toList)) sep.data.toList
  | 0, _ => by simp [jn, Lib.join_nil]
  | 1, h => by
    rw [take_succ_getD ss ByteArray.empty 0 (by omega)]
    simp [jn, Lib.join_one, sAt]
  | k + 2, h => by
    rw [jn_succ sep ss (k + 1) (by omega), take_succ_getD ss ByteArray.empty (k + 1) (by omega), List.map_append, List.map_cons, List.map_nil,
      join_snoc _ _ _ (by intro e; have e2 := congrArg List.length e; rw [List.length_map, List.length_take, List.length_nil] at e2; omega), ByteArray.toList_data_append, ByteArray.toList_data_append, jn_data sep ss (k + 1) (by omega)]
    rfl

theorem jn_all (sep : ByteArray) (ss : List ByteArray) : (⟨(Lib.join (ss.map (·.data.toList)) sep.data.toList).toArray⟩ : ByteArray) = jn sep ss ss.length := by
  have h := jn_data sep ss ss.length (Nat.le_refl _)
  rw [List.take_length] at h
  rw [← h]

theorem join_length (sep : ByteArray) (ss : List ByteArray) (hsep : sep.size = 1) : (Lib.join (ss.map (·.data.toList)) sep.data.toList).length = total ss + (ss.length - 1) := by
  have h := jn_size sep ss hsep ss.length (Nat.le_refl _)
  rw [← jn_all, List.take_length] at h
  exact h

/-- Whether the join stops at the 'i'-th string: it holds the separator, or all is too long by then. -/
def JBad (c : UInt8) (ss : List ByteArray) (i : Nat) : Prop := hasB (sAt ss i) c = true ∨ 4000 < total (ss.take (i + 1)) + i

/-- What JoinStrings answers: the text and whether there is one. -/
def JOk (sep : ByteArray) (ss : List ByteArray) : Prop := sep.size = 1 ∧ ss ≠ [] ∧ ∀ (h : 0 < sep.size), ∀ i, i < ss.length → ¬ JBad sep[0] ss i

theorem cells_of_row {w : World} {b off : Nat} {ss : List ByteArray} (hc : ∀ k, k < ss.length → w.cell? ⟨b, off + k, none⟩ = some (.string (sAt ss k))) :
    ∀ (j : Nat) x, ss[j]? = some x → w.cell? ⟨b, off + j, none⟩ = some (.string x) := by
  intro j x hx
  have hj : j < ss.length := (List.getElem?_eq_some_iff.1 hx).1
  rw [hc j hj]
  simp [sAt, List.getD, hx]

end Go.Proofs.Ytdfmfmndmldggaa.Lb

namespace Go.Proofs.Ytdfmfmndmldggaa.Lb
open Go.RowKit
set_option linter.unusedVariables false

/-- A feature: its code and its words. -/
structure Ft where
  c : Int
  wh : ByteArray
  wt : ByteArray
  lk : ByteArray
  sd : ByteArray

def famN : Nat → ByteArray
  | 0 => ⟨#[114, 105, 115, 101]⟩
  | 1 => ⟨#[104, 111, 108, 101]⟩
  | 2 => ⟨#[114, 111, 99, 107]⟩
  | 3 => ⟨#[119, 97, 116, 101, 114]⟩
  | 4 => ⟨#[108, 105, 110, 101]⟩
  | _ => ⟨#[]⟩
def famW : Nat → List ByteArray
  | 0 => [⟨#[104, 105, 108, 108]⟩, ⟨#[107, 110, 111, 108, 108]⟩, ⟨#[115, 112, 117, 114]⟩]
  | 1 => [⟨#[112, 105, 116]⟩, ⟨#[104, 111, 108, 108, 111, 119]⟩]
  | 2 => [⟨#[98, 111, 117, 108, 100, 101, 114]⟩, ⟨#[99, 108, 105, 102, 102]⟩]
  | 3 => [⟨#[115, 116, 114, 101, 97, 109]⟩, ⟨#[112, 111, 110, 100]⟩]
  | 4 => [⟨#[112, 97, 116, 104]⟩, ⟨#[102, 101, 110, 99, 101]⟩, ⟨#[119, 97, 108, 108]⟩]
  | _ => []
def famS : Nat → List ByteArray
  | 0 => [⟨#[110, 111, 114, 116, 104]⟩, ⟨#[101, 97, 115, 116]⟩, ⟨#[115, 111, 117, 116, 104]⟩, ⟨#[119, 101, 115, 116]⟩, ⟨#[116, 111, 112]⟩, ⟨#[102, 111, 111, 116]⟩]
  | 1 => [⟨#[110, 111, 114, 116, 104]⟩, ⟨#[101, 97, 115, 116]⟩, ⟨#[115, 111, 117, 116, 104]⟩, ⟨#[119, 101, 115, 116]⟩, ⟨#[102, 111, 111, 116]⟩]
  | 2 => [⟨#[110, 111, 114, 116, 104]⟩, ⟨#[101, 97, 115, 116]⟩, ⟨#[115, 111, 117, 116, 104]⟩, ⟨#[119, 101, 115, 116]⟩, ⟨#[116, 111, 112]⟩, ⟨#[102, 111, 111, 116]⟩, ⟨#[98, 101, 116, 119, 101, 101, 110]⟩]
  | 3 => [⟨#[110, 111, 114, 116, 104]⟩, ⟨#[101, 97, 115, 116]⟩, ⟨#[115, 111, 117, 116, 104]⟩, ⟨#[119, 101, 115, 116]⟩]
  | 4 => [⟨#[110, 111, 114, 116, 104]⟩, ⟨#[101, 97, 115, 116]⟩, ⟨#[115, 111, 117, 116, 104]⟩, ⟨#[119, 101, 115, 116]⟩]
  | _ => []
def dirs : List ByteArray := [⟨#[110, 111, 114, 116, 104]⟩, ⟨#[101, 97, 115, 116]⟩, ⟨#[115, 111, 117, 116, 104]⟩, ⟨#[119, 101, 115, 116]⟩]
def whichs : List ByteArray := [⟨#[110, 111, 114, 116, 104]⟩, ⟨#[101, 97, 115, 116]⟩, ⟨#[115, 111, 117, 116, 104]⟩, ⟨#[119, 101, 115, 116]⟩, ⟨#[117, 112, 112, 101, 114]⟩, ⟨#[108, 111, 119, 101, 114]⟩, ⟨#[109, 105, 100, 100, 108, 101]⟩]
def looks : List ByteArray := [⟨#[108, 111, 119]⟩, ⟨#[104, 105, 103, 104]⟩, ⟨#[119, 101, 116]⟩, ⟨#[111, 118, 101, 114, 103, 114, 111, 119, 110]⟩]
def between : ByteArray := ⟨#[98, 101, 116, 119, 101, 101, 110]⟩

instance memDec (x : ByteArray) : (ss : List ByteArray) → Decidable (x ∈ ss)
  | [] => isFalse (by simp)
  | y :: r => if h : x = y then isTrue (by rw [h]; exact List.mem_cons_self) else match memDec x r with
    | isTrue h' => isTrue (List.mem_cons_of_mem _ h')
    | isFalse h' => isFalse (fun m => by rcases List.mem_cons.1 m with e | e; exact h e; exact h' e)

/-- Where a word stands first in a list, or -1. -/
def idxN (ss : List ByteArray) (x : ByteArray) : Nat := ss.findIdx (fun y => decide (y = x))
def idxZ (ss : List ByteArray) (x : ByteArray) : Int := if x ∈ ss then (idxN ss x : Nat) else -1

theorem mem_sAt {ss : List ByteArray} {x : ByteArray} : x ∈ ss ↔ ∃ j, j < ss.length ∧ sAt ss j = x := by
  constructor
  · intro h
    obtain ⟨j, hj, e⟩ := List.mem_iff_getElem.1 h
    exact ⟨j, hj, by simp [sAt, hj, e]⟩
  · rintro ⟨j, hj, rfl⟩
    simp [sAt, hj]
theorem idxZ_first {ss : List ByteArray} {x : ByteArray} {j : Nat} (hj : j < ss.length) (e : sAt ss j = x) (h : ∀ i, i < j → sAt ss i ≠ x) : idxZ ss x = j := by
  unfold idxZ
  rw [if_pos (mem_sAt.2 ⟨j, hj, e⟩)]
  have : idxN ss x = j := by
    unfold idxN
    rw [List.findIdx_eq hj]
    refine ⟨by simpa [sAt, hj] using e, fun i hi => ?_⟩
    have := h i hi
    simpa [sAt, show i < ss.length by omega] using this
  rw [this]
theorem idxZ_none {ss : List ByteArray} {x : ByteArray} (h : x ∉ ss) : idxZ ss x = -1 := by unfold idxZ; rw [if_neg h]
theorem idxZ_pos {ss : List ByteArray} {x : ByteArray} (h : x ∈ ss) : ∃ j : Nat, idxZ ss x = j ∧ j < ss.length ∧ sAt ss j = x := by
  refine ⟨idxN ss x, if_pos h, ?_, ?_⟩
  · unfold idxN
    exact List.findIdx_lt_length_of_exists ⟨x, h, by simp⟩
  · have hl : ss.findIdx (fun y => decide (y = x)) < ss.length := List.findIdx_lt_length_of_exists ⟨x, h, by simp⟩
    have := List.findIdx_getElem (w := hl)
    unfold idxN
    simpa [sAt, hl] using this

/-- The number of a word's family; 5 if it has none. -/
def fam (x : ByteArray) : Nat := if x ∈ famW 0 then 0 else if x ∈ famW 1 then 1 else if x ∈ famW 2 then 2 else if x ∈ famW 3 then 3 else if x ∈ famW 4 then 4 else 5

theorem fam_le (x : ByteArray) : fam x ≤ 5 := by unfold fam; repeat (first | omega | split)
theorem fam_none {x : ByteArray} (h : ∀ j, j < 5 → x ∉ famW j) : fam x = 5 := by
  unfold fam
  rw [if_neg (h 0 (by omega)), if_neg (h 1 (by omega)), if_neg (h 2 (by omega)), if_neg (h 3 (by omega)), if_neg (h 4 (by omega))]
theorem fam_first {x : ByteArray} {i : Nat} (hi : i < 5) (e : x ∈ famW i) (h : ∀ j, j < i → x ∉ famW j) : fam x = i := by
  obtain rfl | rfl | rfl | rfl | rfl : i = 0 ∨ i = 1 ∨ i = 2 ∨ i = 3 ∨ i = 4 := by omega
  · unfold fam; rw [if_pos e]
  · unfold fam; rw [if_neg (h 0 (by omega)), if_pos e]
  · unfold fam; rw [if_neg (h 0 (by omega)), if_neg (h 1 (by omega)), if_pos e]
  · unfold fam; rw [if_neg (h 0 (by omega)), if_neg (h 1 (by omega)), if_neg (h 2 (by omega)), if_pos e]
  · unfold fam; rw [if_neg (h 0 (by omega)), if_neg (h 1 (by omega)), if_neg (h 2 (by omega)), if_neg (h 3 (by omega)), if_pos e]

def famZ (x : ByteArray) : Int := if fam x < 5 then (fam x : Int) else -1
theorem famZ_yes {x : ByteArray} (h : fam x < 5) : famZ x = fam x := if_pos h
theorem famZ_no {x : ByteArray} (h : ¬ fam x < 5) : famZ x = -1 := if_neg h
theorem idxZ_iff (ss : List ByteArray) (x : ByteArray) : 0 ≤ idxZ ss x ↔ x ∈ ss := by
  constructor
  · intro h
    by_cases e : x ∈ ss
    · exact e
    · rw [idxZ_none e] at h; omega
  · intro h
    obtain ⟨j, e, _⟩ := idxZ_pos h
    omega

/-- Whether a feature is valid. -/
def OkF (f : Ft) : Prop := fam f.wt < 5 ∧ (31 ≤ f.c ∧ f.c ≤ 99) ∧ (f.wh = ⟨#[]⟩ ∨ f.wh ∈ whichs) ∧ (f.lk = ⟨#[]⟩ ∨ f.lk ∈ looks) ∧ (f.sd = between → f.wh = ⟨#[]⟩) ∧ (f.sd = ⟨#[]⟩ ∨ f.sd ∈ famS (fam f.wt))
instance (f : Ft) : Decidable (OkF f) := by unfold OkF; infer_instance
def okF (f : Ft) : Bool := decide (OkF f)
theorem okF_yes {f : Ft} (h : OkF f) : okF f = true := by simpa [okF] using h
theorem okF_no {f : Ft} (h : ¬ OkF f) : okF f = false := by simpa [okF] using h

theorem famW_len (i : Nat) : (famW i).length ≤ 3 := by
  unfold famW; split <;> simp
theorem famS_len (i : Nat) : (famS i).length ≤ 7 := by
  unfold famS; split <;> simp

end Go.Proofs.Ytdfmfmndmldggaa.Lb

namespace Go.Proofs.Ytdfmfmndmldggaa.Bk
open Go.RowKit Lb
set_option linter.unusedSimpArgs false
set_option linter.unusedVariables false

/-- A block known whole. -/
def Blk (w : World) (g : Nat) (t : TypeId) (cs : Array Value) : Prop := w.heap[g]? = some (.cells cs t (0, 0))
theorem Blk.lt {w : World} {g : Nat} {t : TypeId} {cs : Array Value} (h : Blk w g t cs) : g < w.heap.size := by
  rcases Nat.lt_or_ge g w.heap.size with hlt | hge
  · exact hlt
  · unfold Blk at h; rw [Array.getElem?_eq_none hge] at h; cases h
theorem Blk.new (w : World) (t : TypeId) (cs : Array Value) : Blk (w.alloc (.cells cs t)) w.heap.size t cs := heap_alloc_new w _
theorem Blk.at_ {w : World} {t : TypeId} {cs : Array Value} {g : Nat} (e : g = w.heap.size) : Blk (w.alloc (.cells cs t)) g t cs := by subst e; exact Blk.new w t cs
theorem Blk.alloc {w : World} {g : Nat} {t : TypeId} {cs : Array Value} (h : Blk w g t cs) (o : Obj) : Blk (w.alloc o) g t cs := (Below.heap_alloc w o g h.lt).trans h
theorem Blk.set_ {w : World} {g : Nat} {t : TypeId} {cs : Array Value} (h : Blk w g t cs) (i : Nat) (u : Value) : Blk (w.setCell ⟨g, i, none⟩ u) g t (cs.setIfInBounds i u) := by
  unfold Blk at h ⊢
  simp [World.setCell, Array.getElem?_modify, h]
theorem Blk.far {w : World} {g : Nat} {t : TypeId} {cs : Array Value} (h : Blk w g t cs) {p : Addr} (hp : g ≠ p.block) (u : Value) : Blk (w.setCell p u) g t cs := (Below.heap_setCell w p u g hp).trans h
theorem Blk.below {B : Nat} {w w' : World} {g : Nat} {t : TypeId} {cs : Array Value} (h : Blk w g t cs) (hb : Below B w w') (hg : g < B) : Blk w' g t cs := (hb.block g hg).trans h
theorem Blk.later {w w' : World} {g : Nat} {t : TypeId} {cs : Array Value} (h : Blk w g t cs) (hb : Below w.heap.size w w') : Blk w' g t cs := h.below hb h.lt
theorem Blk.drew {w : World} {g : Nat} {t : TypeId} {cs : Array Value} (h : Blk w g t cs) : Blk w.drew g t cs := h
theorem Blk.drewN {w : World} {g : Nat} {t : TypeId} {cs : Array Value} (h : Blk w g t cs) (n : Nat) : Blk (w.drewN n) g t cs := h
theorem Blk.cell {w : World} {g : Nat} {t : TypeId} {cs : Array Value} (h : Blk w g t cs) (k : Nat) {v : Value} (e : cs[k]? = some v) : w.cell? ⟨g, k, none⟩ = some v := by
  unfold Blk at h
  simp [World.cell?, h, e]
theorem Blk.frozen {w : World} {g : Nat} {t : TypeId} {cs : Array Value} (h : Blk w g t cs) (k : Nat) : w.frozen? ⟨g, k, none⟩ = false := by
  unfold Blk at h
  simp [World.frozen?, h]
theorem Blk.five {w : World} {g : Nat} {t : TypeId} {x0 x1 x2 x3 x4 : Value} (h : Blk w g t #[x0, x1, x2, x3, x4]) :
    w.cell? ⟨g, 0, none⟩ = some x0 ∧ w.cell? ⟨g, 1, none⟩ = some x1 ∧ w.cell? ⟨g, 2, none⟩ = some x2 ∧ w.cell? ⟨g, 3, none⟩ = some x3 ∧ w.cell? ⟨g, 4, none⟩ = some x4 ∧ w.frozen? ⟨g, 0, none⟩ = false ∧ w.frozen? ⟨g, 1, none⟩ = false ∧ w.frozen? ⟨g, 2, none⟩ = false ∧ w.frozen? ⟨g, 3, none⟩ = false ∧ w.frozen? ⟨g, 4, none⟩ = false :=
  ⟨h.cell 0 rfl, h.cell 1 rfl, h.cell 2 rfl, h.cell 3 rfl, h.cell 4 rfl, h.frozen 0, h.frozen 1, h.frozen 2, h.frozen 3, h.frozen 4⟩
theorem Blk.three {w : World} {g : Nat} {t : TypeId} {x0 x1 x2 : Value} (h : Blk w g t #[x0, x1, x2]) :
    w.cell? ⟨g, 0, none⟩ = some x0 ∧ w.cell? ⟨g, 1, none⟩ = some x1 ∧ w.cell? ⟨g, 2, none⟩ = some x2 ∧ w.frozen? ⟨g, 0, none⟩ = false ∧ w.frozen? ⟨g, 1, none⟩ = false ∧ w.frozen? ⟨g, 2, none⟩ = false :=
  ⟨h.cell 0 rfl, h.cell 1 rfl, h.cell 2 rfl, h.frozen 0, h.frozen 1, h.frozen 2⟩

/-- A block of strings. -/
def StrB (w : World) (g : Nat) (ss : List ByteArray) : Prop := Blk w g 9 (ss.map Value.string).toArray
theorem StrB.row {w : World} {g : Nat} {ss : List ByteArray} (h : StrB w g ss) : StrRow w (some ⟨g, 0, none⟩) ss :=
  .inr ⟨g, 0, rfl, fun k hk => by rw [Nat.zero_add]; exact Blk.cell h k (by simp [sAt, hk])⟩
theorem StrB.own {w : World} {g base : Nat} {ss : List ByteArray} (h : StrB w g ss) (hb : base ≤ g) (hl : ss.length ≤ maxLen) : w.ownsRow base 9 1 (.slice (some ⟨g, 0, none⟩) ss.length ss.length) ss.length (ss.map Value.string) :=
  ⟨by simp, .inr ⟨g, ss.length, _, rfl, hb, h, Nat.le_refl _, hl, by simp, by rw [List.take_of_length_le (by simp)]⟩⟩
theorem StrB.later {w w' : World} {g : Nat} {ss : List ByteArray} (h : StrB w g ss) (hb : Below w.heap.size w w') : StrB w' g ss := Blk.later h hb

theorem below_drewN {B : Nat} {a w : World} (h : Below B a w) (q : Nat) : Below B a (w.drewN q) := ⟨h.os, h.tape, h.output, h.size, h.block⟩
theorem grownBy_of_below {a b : World} (h : Below a.heap.size a b) (r : Option Nat) : a.grownBy b r := ⟨h.os, h.tape, h.output, h.size, fun k hk _ => h.block k hk⟩
theorem owns_below {w w' : World} {base : Nat} {e : TypeId} {size : Nat} {v : Value} {n : Nat} {xs : List Value} (h : w.ownsRow base e size v n xs) (hb : Below w.heap.size w w') : w'.ownsRow base e size v n xs :=
  h.kept (grownBy_of_below hb none) (by cases hv : v.ownBlock <;> simp)

end Go.Proofs.Ytdfmfmndmldggaa.Bk

namespace Go.Proofs.Ytdfmfmndmldggaa.InA
open Go.RowKit Lb Bk
set_option linter.unusedSimpArgs false
set_option linter.unusedVariables false

theorem in_any (x a b : Int) (w : World) : Calls Try.prog 86 #[.int .i64 x, .int .i64 a, .int .i64 b] w fun e w' => e = .returned (.bool (decide (a ≤ x ∧ x ≤ b))) ∧ w' = w := by
  by_cases h1 : a ≤ x
  · by_cases h2 : x ≤ b
    · have H := Lib.hid (decide_eq_true (And.intro h1 h2))
      go_enter Try.func86, Try.ntmps86
      go_wp2
      go_ret
      exact ⟨ret_bool H.out.symm, rfl⟩
    · have H := Lib.hid (show decide (a ≤ x ∧ x ≤ b) = false from decide_eq_false (fun h => h2 h.2))
      have h2' : decide (x ≤ b) = false := decide_eq_false h2
      clear h2
      go_enter Try.func86, Try.ntmps86
      go_wp2
      go_ret
      exact ⟨ret_bool H.out.symm, rfl⟩
  · have H := Lib.hid (show decide (a ≤ x ∧ x ≤ b) = false from decide_eq_false (fun h => h1 h.1))
    have h1' : decide (a ≤ x) = false := decide_eq_false h1
    clear h1
    go_enter Try.func86, Try.ntmps86
    go_wp2
    go_ret
    exact ⟨ret_bool H.out.symm, rfl⟩

end Go.Proofs.Ytdfmfmndmldggaa.InA

namespace Go.Proofs.Ytdfmfmndmldggaa.IntK
open Go.RowKit Lb IntS
set_option linter.unusedVariables false

def Row (w : World) (a : Option Addr) (rs : List Int) : Prop := IRow w a rs
def Own (w : World) (base : Nat) (v : Value) (rs : List Int) : Prop := OwnI w base v rs
theorem Row.later {w w' : World} {a : Option Addr} {rs : List Int} (H : Row w a rs) (hb : Below w.heap.size w w') : Row w' a rs := RowAt.below H hb
theorem Row.drew {w : World} {a : Option Addr} {rs : List Int} (H : Row w a rs) : Row w.drew a rs := H
theorem Row.beside {w w' : World} {a : Option Addr} {rs : List Int} (H : Row w a rs) {r : Option Nat} (hg : w.grownBy w' r) (hr : ∀ x, a = some x → r ≠ some x.block) : Row w' a rs := row_beside H hg hr
theorem Own.slice {w : World} {base : Nat} {v : Value} {rs : List Int} (h : Own w base v rs) :
    ∃ a cap, v = .slice a rs.length cap ∧ Row w a rs ∧ ∀ x, a = some x → base ≤ x.block ∧ x.block < w.heap.size := OwnI.slice h
theorem Own.row {w : World} {base cap : Nat} {a : Option Addr} {rs : List Int} (h : Own w base (.slice a rs.length cap) rs) : Row w a rs := by
  obtain ⟨a', c', e, hr, _⟩ := h.slice
  cases e; exact hr
theorem Own.le {w : World} {base n cap : Nat} {a : Option Addr} {rs : List Int} (h : Own w base (.slice a n cap) rs) : rs.length ≤ cap := by
  unfold Own at h
  unfold OwnI at h
  rcases h.2 with ⟨h1, h0⟩ | ⟨g', c', cur, hv, _, _, h3, _⟩
  · omega
  · obtain ⟨-, -, rfl⟩ := Value.slice.inj hv
    omega
theorem Own.below {w w' : World} {base : Nat} {v : Value} {rs : List Int} (h : Own w base v rs) (hb : Below w.heap.size w w') : Own w' base v rs := OwnI.below h hb
theorem Own.drew {w : World} {base : Nat} {v : Value} {rs : List Int} (h : Own w base v rs) : Own w.drew base v rs := h.below (Below.refl _ _).drew
def mkL (k n : Nat) : List Int := markZ k n
theorem mkL_len (k n : Nat) : (mkL k n).length = n := markZ_length _ _
theorem eqS_same (a b : Option Addr) (cap cap' : Nat) (rs : List Int) (w : World) (hr : Row w a rs) (hr' : Row w b rs) (hl : rs.length ≤ maxLen) :
    Calls Try.prog 39 #[.slice a rs.length cap, .slice b rs.length cap'] w fun e w' => e = .returned (.bool true) ∧ Below w.heap.size w w' := eq_same a b cap cap' rs w hr hr' hl
theorem markS_any (base : Nat) (a : Option Addr) (cap : Nat) (rs : List Int) (k : Nat) (w : World) (hown : Own w base (.slice a rs.length cap) rs) (h0 : 1 ≤ k) (h1 : k + 1 * rs.length ≤ 8000000) :
    Calls Try.prog 42 #[.slice a rs.length cap, .int .i64 k] w fun e w' => e = .returned (.int .i64 (k + 1 * rs.length : Nat)) ∧ Own w' base (.slice a rs.length cap) (mkL k rs.length) ∧ w.grownBy w' (Value.slice a rs.length cap).ownBlock :=
  (mark_any base a cap rs k w hown (by omega) (by omega)).mono fun e w' ⟨h1, h2, h3⟩ => ⟨by rw [h1]; exact congrArg (fun z => Ending.returned (Value.int .i64 z)) (by omega), h2, h3⟩
theorem heldS_any (a : Option Addr) (cap n k : Nat) (w : World) (hr : Row w a (mkL k n)) (h0 : 1 ≤ k) (h1 : k + 1 * n ≤ 8000000) :
    Calls Try.prog 43 #[.slice a n cap, .int .i64 k] w fun e w' => e = .returned (.int .i64 (k + 1 * n : Nat)) ∧ Below w.heap.size w w' := by
  have h : RowAt w a n (fun j => .int .i64 ((k : Int) + j)) := by
    have := hr
    unfold Row IRow mkL at this
    rw [markZ_length] at this
    exact this.congr fun j hj => by rw [markZ_at _ _ _ hj]
  exact (held_any a cap n k w h (by omega) (by omega)).mono fun e w' ⟨h1, h2⟩ => ⟨by rw [h1]; exact congrArg (fun z => Ending.returned (Value.int .i64 z)) (by omega), by rw [h2]; exact Below.refl _ _⟩
/-- A list that grows, of the call's own. -/
structure Gr (w : World) (v : Value) (zs : List Int) (wr : World) : Prop where
  b : Below w.heap.size w wr
  own : OwnI wr w.heap.size v zs
theorem Gr.below {w : World} {v : Value} {zs : List Int} {wr w' : World} (h : Gr w v zs wr) (hb : Below wr.heap.size wr w') : Gr w v zs w' := ⟨h.b.trans (hb.mono h.b.size), h.own.below hb⟩
theorem Gr.alloc {w : World} {v : Value} {zs : List Int} {wr : World} (h : Gr w v zs wr) (o : Obj) : Gr w v zs (wr.alloc o) := h.below ((Below.refl _ _).alloc (Nat.le_refl _) _)
theorem Gr.put {w : World} {v v' : Value} {zs : List Int} {z : Int} {n : Nat} {wr w' : World} (h : Gr w v zs wr) (hn : zs.length = n) (hg : wr.grownBy w' v.ownBlock) (ho : w'.ownsRow w.heap.size 3 1 v' (n + 1) (zs.map (Value.int .i64) ++ [.int .i64 z])) : Gr w v' (zs ++ [z]) w' :=
  ⟨h.b.grown hg h.b.size (fun k e => (h.own.lt k e).1), by unfold OwnI; subst hn; simpa using ho⟩
theorem Gr.start (w : World) : Gr w (.slice (some ⟨w.heap.size, 0, none⟩) 0 0) [] (w.alloc (.cells #[] 3)) :=
  ⟨(Below.refl _ _).alloc (Nat.le_refl _) _, World.ownsRow_made w #[] 0 (Nat.le_refl _) (Nat.zero_le _) rfl⟩
end Go.Proofs.Ytdfmfmndmldggaa.IntK

namespace Go.Proofs.Ytdfmfmndmldggaa.IntK
open Go.RowKit Lb IntS
set_option linter.unusedVariables false
theorem toS_any (a : Option Addr) (cap : Nat) (rs : List Int) (w : World) (hr : Row w a rs) (hl : rs.length ≤ 1048576) :
    Calls Try.prog 36 #[.slice a rs.length cap] w fun e w' => ∃ v, e = .returned v ∧ Own w' w.heap.size v rs ∧ Below w.heap.size w w' :=
  (to_any a cap rs w hr hl).mono fun _ _ ⟨⟨v, h1, h2⟩, h3⟩ => ⟨v, h1, h2, h3⟩
end Go.Proofs.Ytdfmfmndmldggaa.IntK

namespace Go.Proofs.Ytdfmfmndmldggaa.MpA
open Go.RowKit Lb
open MapS (Chg)
set_option linter.unusedVariables false

theorem f4 {w : World} {g : Nat} {t : TypeId} {x0 x1 x2 x3 : Value} (h : Bk.Blk w g t #[x0, x1, x2, x3]) : w.cell? ⟨g, 0, none⟩ = some x0 ∧ w.cell? ⟨g, 1, none⟩ = some x1 ∧ w.cell? ⟨g, 2, none⟩ = some x2 ∧ w.cell? ⟨g, 3, none⟩ = some x3 := by
  obtain ⟨h0, h1, h2, h3, -⟩ := MapS.Blk.four h
  exact ⟨h0, h1, h2, h3⟩
theorem chg_cell {lo hi : Nat} {w w' : World} (h : Chg lo hi w w') {p : Addr} {v : Value} (hc : w.cell? p = some v) (hp : p.block < lo ∨ hi ≤ p.block) : w'.cell? p = some v := by
  have hb := h.block p.block (World.block_lt_of_cell? w _ hc) hp
  rw [← hc]
  unfold World.cell?
  rw [hb]
theorem chg_owns {lo hi : Nat} {w w' : World} (h : Chg lo hi w w') {base n m cap size : Nat} {e : TypeId} {a : Option Addr} {xs : List Value} (H : w.ownsRow base e size (.slice a m cap) n xs) (hx : ∀ p, a = some p → p.block < lo ∨ hi ≤ p.block) : w'.ownsRow base e size (.slice a m cap) n xs := by
  refine ⟨H.1, ?_⟩
  rcases H.2 with h2 | ⟨g, cap', cur, hv, hg, hh, r⟩
  · exact .inl h2
  · refine .inr ⟨g, cap', cur, hv, hg, ?_, r⟩
    obtain ⟨ha, -, -⟩ := Value.slice.inj hv
    have hlt : g < w.heap.size := (H.lt g (by rw [ha]; rfl)).2
    exact (h.block g hlt (hx _ ha)).trans hh
end Go.Proofs.Ytdfmfmndmldggaa.MpA
namespace Go.Proofs.Ytdfmfmndmldggaa.IntK
open Go.RowKit Lb
theorem Row.chg {lo hi : Nat} {w w' : World} (h : MapS.Chg lo hi w w') {a : Option Addr} {rs : List Int} (H : Row w a rs) (hx : ∀ p, a = some p → p.block < lo ∨ hi ≤ p.block) : Row w' a rs := MapS.Chg.row h H hx
theorem Own.chg {lo hi base n cap : Nat} {w w' : World} (h : MapS.Chg lo hi w w') {a : Option Addr} {rs : List Int} (H : Own w base (.slice a n cap) rs) (hx : ∀ p, a = some p → p.block < lo ∨ hi ≤ p.block) : Own w' base (.slice a n cap) rs := MpA.chg_owns h H hx
end Go.Proofs.Ytdfmfmndmldggaa.IntK

namespace Go.Proofs.Ytdfmfmndmldggaa.MapO
open Go.ChangeShapes Go.WideShapes Go.ChangeAt Go.RowKit Go.Joins Go.Deep Lb IntS MapS

/-- A map that came in: both lists can be read, and all numbers are int's. -/
structure IsMp (W : World) (m : Mp) (a b : Option Addr) : Prop where
  R : IRow W a m.R
  C : IRow W b m.C
  lR : m.R.length ≤ maxLen
  lC : m.C.length ≤ maxLen
  w : Joins.In64 m.W
  h : Joins.In64 m.H

theorem open_is {P : Program} {H : Type} {enc : TypeId × Value → H} {W : World} {base : Nat} {spare : Nat → Bool} {held : Bool} {t e : TypeId} {n : Nat} {v : Value} {y : DataW H × List MemPlace} (ht : P.underlying t = some (.slice e)) (he : P.underlying e = some (.int .i64)) (hc : P.cellsOf e = 1)
    (h : DataW.trod enc P W base spare held n t [v] = some y) : ∃ (a : Option Addr) (cap : Nat) (zs : List Int), v = .slice a zs.length cap ∧ IRow W a zs ∧ zs.length ≤ maxLen := by
  rcases open_ints ht he hc h with ⟨hcs, _⟩ | ⟨x, l, c, zs, hcs, _, hl, hm, hz, _, hcell, hwf⟩
  · simp at hcs
    subst hcs
    exact ⟨none, 0, [], rfl, .inl rfl, by simp⟩
  · simp at hcs
    subst hcs
    have hlz : l ≤ zs.length := by rw [hz]; split <;> omega
    have e1 : (zs.take l).length = l := by simp; omega
    refine ⟨some x, c, zs.take l, by rw [e1], RowAt.of_add fun k hk => ?_, by omega⟩
    have hkl : k < l := by omega
    rw [hcell k (by omega)]
    simp [zAt, List.getD, hkl]

theorem open_map {P : Program} {H : Type} {enc : TypeId × Value → H} {W : World} {r : Reach} {b0 base : Nat} {spare : Nat → Bool} {held : Bool} {t e : TypeId} {f0 f1 f2 f3 : Field} {v : Value} {d : DataW H} {p : List MemPlace}
    (hs : P.underlying t = some (.struct #[f0, f1, f2, f3])) (hone : oneCellFields P #[f0, f1, f2, f3] = true) (hC : P.cellsOf t = 4)
    (h0 : P.underlying f0.type = some (.int .i64)) (h1 : P.underlying f1.type = some (.int .i64)) (h2 : P.underlying f2.type = some (.slice e)) (h3 : P.underlying f3.type = some (.slice e)) (he : P.underlying e = some (.int .i64)) (hc : P.cellsOf e = 1)
    (hv : Value.okWide P W r b0 t v) (h : DataW.Trod enc P W base spare held t v d p) :
    ∃ (m : Mp) (a : Option Addr) (ca : Nat) (b : Option Addr) (cb : Nat), v = .agg #[.int .i64 m.W, .int .i64 m.H, .slice a m.R.length ca, .slice b m.C.length cb] ∧ IsMp W m a b := by
  obtain ⟨v0, v1, v2, v3, y0, y1, y2, y3, n, rfl, _, _, t0, t1, t2, t3⟩ := Joins.open_agg4 hs hone hC hv h
  obtain ⟨z0, e0, _, w0⟩ := DataW.trod_int h0 t0
  obtain ⟨z1, e1, _, w1⟩ := DataW.trod_int h1 t1
  obtain ⟨a, ca, R, rfl, hR, lR⟩ := open_is h2 he hc t2
  obtain ⟨b, cb, C, rfl, hC', lC⟩ := open_is h3 he hc t3
  simp at e0 e1
  subst e0 e1
  exact ⟨⟨z0, z1, R, C⟩, a, ca, b, cb, rfl, hR, hC', lR, lC, bounds_i64 w0, bounds_i64 w1⟩

end Go.Proofs.Ytdfmfmndmldggaa.MapO

namespace Go.Proofs.Ytdfmfmndmldggaa.LisO
open Go.ChangeShapes Go.WideShapes Go.ChangeAt Go.RowKit Go.Joins Go.Deep Lb IntS MapS
set_option linter.unusedVariables false

structure IsL (W : World) (zs : List Int) (a : Option Addr) : Prop where
  row : IRow W a zs
  len : zs.length ≤ maxLen
theorem open_list {P : Program} {H : Type} {enc : TypeId × Value → H} {W : World} {r : Reach} {b0 base : Nat} {spare : Nat → Bool} {held : Bool} {t e : TypeId} {v : Value} {d : DataW H} {p : List MemPlace} (ht : P.underlying t = some (.slice e)) (he : P.underlying e = some (.int .i64)) (hc : P.cellsOf e = 1)
    (hv : Value.okWide P W r b0 t v) (h : DataW.Trod enc P W base spare held t v d p) : ∃ (zs : List Int) (a : Option Addr) (cap : Nat), v = .slice a zs.length cap ∧ IsL W zs a := by
  obtain ⟨a0, len, cap0, rfl⟩ := Go.WideShapes.okWide_slice ht hv
  obtain ⟨fuel, hf⟩ := h
  rcases open_ints ht he hc hf with ⟨hcs, _⟩ | ⟨x, l, c, zs, hcs, _, hl, hm, hz, _, hcell, hwf⟩
  · simp [Value.cells] at hcs
    obtain ⟨rfl, rfl, rfl⟩ := hcs
    exact ⟨[], none, 0, rfl, .inl rfl, by simp⟩
  · simp [Value.cells] at hcs
    obtain ⟨rfl, rfl, rfl⟩ := hcs
    have hlz : len ≤ zs.length := by rw [hz]; split <;> omega
    have e1 : (zs.take len).length = len := by simp; omega
    refine ⟨zs.take len, some x, cap0, by rw [e1], RowAt.of_add fun k hk => ?_, by omega⟩
    have hkl : k < len := by omega
    rw [hcell k (by omega)]
    simp [zAt, List.getD, hkl]
end Go.Proofs.Ytdfmfmndmldggaa.LisO

namespace Go.Proofs.Ytdfmfmndmldggaa.LwK
open Go.RowKit Lb Bk
set_option linter.unusedVariables false

theorem own_block {a : Option Addr} {n cap q : Nat} (h : (Value.slice a n cap).ownBlock = some q) : ∃ x, a = some x ∧ x.block = q := by
  cases a with
  | none => cases h
  | some x => exact ⟨x, rfl, by simpa [Value.ownBlock] using h⟩
theorem below_grown {B : Nat} {W w w' : World} {a : Option Addr} {n cap : Nat} (h : Below B W w) (hg : w.grownBy w' (Value.slice a n cap).ownBlock) (hs : B ≤ w.heap.size) (hl : ∀ x, a = some x → B ≤ x.block) : Below B W w' :=
  h.grown hg hs fun q e => by
    obtain ⟨x, hx, rfl⟩ := own_block e
    exact hl x hx
theorem blk_grown {w w' : World} {g : Nat} {t : TypeId} {cs : Array Value} {a : Option Addr} {n cap : Nat} (h : Blk w g t cs) (hg : w.grownBy w' (Value.slice a n cap).ownBlock) (hl : ∀ x, a = some x → x.block ≠ g) : Blk w' g t cs :=
  (hg.block g h.lt (fun e => by
    obtain ⟨x, hx, h1⟩ := own_block e.symm
    exact hl x hx h1)).trans h
theorem ne_block {a b : Option Addr} {n cap : Nat} (h : ∀ x y, a = some x → b = some y → y.block ≠ x.block) : ∀ x, a = some x → (Value.slice b n cap).ownBlock ≠ some x.block := by
  intro x hx e
  obtain ⟨y, hy, h1⟩ := own_block e
  exact h x y hx hy h1
theorem ne_own {a b : Option Addr} {n cap m cap' : Nat} (h : ∀ x y, a = some x → b = some y → y.block ≠ x.block) : (Value.slice a n cap).ownBlock = none ∨ (Value.slice a n cap).ownBlock ≠ (Value.slice b m cap').ownBlock := by
  cases a with
  | none => exact .inl rfl
  | some x =>
    refine .inr fun e => ?_
    have : (Value.slice (some x) n cap).ownBlock = some x.block := rfl
    rw [this] at e
    obtain ⟨y, hy, h1⟩ := own_block e.symm
    exact h x y rfl hy h1
theorem rebase {w : World} {b b' : Nat} {e : TypeId} {size : Nat} {v : Value} {n : Nat} {xs : List Value} (h : w.ownsRow b e size v n xs) (hb : b' ≤ b) : w.ownsRow b' e size v n xs := by
  refine ⟨h.1, ?_⟩
  rcases h.2 with h2 | ⟨g, cap, cur, hv, hg, r⟩
  · exact .inl h2
  · exact .inr ⟨g, cap, cur, hv, Nat.le_trans hb hg, r⟩
theorem pos_cast (k : Nat) : decide ((k : Int) < 0) = false := decide_eq_false (by omega)

end Go.Proofs.Ytdfmfmndmldggaa.LwK
