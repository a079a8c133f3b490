/- The text of a map, read back: plain lemmas. -/
import Derived.Test.YtdphliobjafjaaaTextM
import Derived.Test.YtdphliobjafjaaaSplM
import Derived.Lib.IndexLaws
namespace Go.Proofs.Ytdphliobjafjaaa.Lb
open Go.RowKit
set_option linter.unusedVariables false

def bAt (l : List UInt8) (k : Nat) : UInt8 := l.getD k 0
theorem bAt_eq (s : ByteArray) (k : Nat) (h : k < s.size) : s[k] = bAt s.data.toList k := by
  have h' : k < s.data.toList.length := by simpa using h
  unfold bAt
  rw [List.getD_eq_getElem?_getD, List.getElem?_eq_getElem h']
  rfl

/-- A text is that of a good map, all of whose cells have one. -/
structure TextOf (m : Mp) (w h : Nat) (s : ByteArray) : Prop where
  g : GoodM m w h
  all : ∀ i, i < w * h → HasT m i
  s : s = bs (txt m w (w * h))

theorem txt_at (m : Mp) (w : Nat) : ∀ n c, c < n → ∀ j, j < 3 → bAt (txt m w n) (3 * c + j) = bAt (cellT m c ++ [sepT w c]) j
  | 0, c, h, _, _ => absurd h (Nat.not_lt_zero _)
  | n + 1, c, h, j, hj => by
    have hl := txt_length m w n
    have hc := cellT_length m n
    unfold bAt
    rw [txt, List.append_assoc]
    by_cases e : c < n
    · have ih := txt_at m w n c e j hj
      unfold bAt at ih
      rw [← ih, List.getD_eq_getElem?_getD, List.getD_eq_getElem?_getD, List.getElem?_append_left (by rw [hl]; omega)]
    · obtain rfl : c = n := by omega
      rw [List.getD_eq_getElem?_getD, List.getD_eq_getElem?_getD, List.getElem?_append_right (by rw [hl]; omega), hl]
      congr 2
      omega

/-- What two bytes say. -/
def pc (b0 b1 : UInt8) : Int := if b0 = 35 ∧ b1 = 35 then 0 else (b0.toNat : Int) - 48
def pr (b0 b1 : UInt8) : Int := if b0 = 35 ∧ b1 = 35 then 0 else (b1.toNat : Int) - 48
/-- The number of one byte. -/
def rd1 (b : UInt8) : Int := if 48 ≤ b.toNat ∧ b.toNat ≤ 57 then (b.toNat : Int) - 48 else 0

theorem dg_rd {z : Int} (h0 : 0 ≤ z) (h9 : z ≤ 9) : rd1 (dg z) = z := by
  have h := dg_toNat h0 h9
  unfold rd1
  rw [if_pos (by omega)]
  omega
theorem dg_ne {z : Int} (h0 : 0 ≤ z) (h9 : z ≤ 9) (c : UInt8) (hc : c.toNat < 48) : dg z ≠ c := fun e => by
  have h := dg_toNat h0 h9
  rw [e] at h
  omega
theorem cell_pc {m : Mp} {c : Nat} (h : CellOk m c) (ht : HasT m c) : pc (bAt (cellT m c) 0) (bAt (cellT m c) 1) = zAt m.C c ∧ pr (bAt (cellT m c) 0) (bAt (cellT m c) 1) = zAt m.R c ∧ rd1 (bAt (cellT m c) 0) = zAt m.C c ∧ rd1 (bAt (cellT m c) 1) = zAt m.R c
    ∧ (bAt (cellT m c) 0 ≠ 10 ∧ bAt (cellT m c) 1 ≠ 10 ∧ bAt (cellT m c) 0 ≠ 32 ∧ bAt (cellT m c) 1 ≠ 32) := by
  obtain ⟨r0, r9, c0, c9⟩ := h
  unfold cellT
  by_cases hp : 0 < zAt m.C c
  · rw [if_pos hp]
    have e0 : bAt [dg (zAt m.C c), dg (zAt m.R c)] 0 = dg (zAt m.C c) := rfl
    have e1 : bAt [dg (zAt m.C c), dg (zAt m.R c)] 1 = dg (zAt m.R c) := rfl
    rw [e0, e1]
    have n0 := dg_ne c0 c9 35 (by decide)
    have d0 := dg_toNat c0 c9
    have d1 := dg_toNat r0 r9
    refine ⟨?_, ?_, dg_rd c0 c9, dg_rd r0 r9, dg_ne c0 c9 10 (by decide), dg_ne r0 r9 10 (by decide), dg_ne c0 c9 32 (by decide), dg_ne r0 r9 32 (by decide)⟩
    · unfold pc
      rw [if_neg (fun h => n0 h.1)]
      omega
    · unfold pr
      rw [if_neg (fun h => n0 h.1)]
      omega
  · rw [if_neg hp]
    have hr : zAt m.R c = 0 := by rcases ht with h | h; exact absurd h hp; exact h
    have hc : zAt m.C c = 0 := by omega
    rw [hr, hc]
    exact ⟨rfl, rfl, rfl, rfl, by decide, by decide, by decide, by decide⟩

namespace TextOf
variable {m : Mp} {w h : Nat} {s : ByteArray}
theorem list (t : TextOf m w h s) : s.data.toList = txt m w (w * h) := by rw [t.s]; simp [bs]
theorem size (t : TextOf m w h s) : s.size = 3 * (w * h) := by rw [t.s, bs_size, txt_length]
theorem at_ (t : TextOf m w h s) (c : Nat) (hc : c < w * h) (j : Nat) (hj : j < 3) : bAt s.data.toList (3 * c + j) = bAt (cellT m c ++ [sepT w c]) j := by rw [t.list]; exact txt_at m w _ c hc j hj
theorem at0 (t : TextOf m w h s) (c : Nat) (hc : c < w * h) : bAt s.data.toList (3 * c) = bAt (cellT m c) 0 := by
  have e := t.at_ c hc 0 (by omega)
  rw [Nat.add_zero] at e
  rw [e]
  unfold bAt
  rw [List.getD_eq_getElem?_getD, List.getD_eq_getElem?_getD, List.getElem?_append_left (by rw [cellT_length]; omega)]
theorem at1 (t : TextOf m w h s) (c : Nat) (hc : c < w * h) : bAt s.data.toList (3 * c + 1) = bAt (cellT m c) 1 := by
  rw [t.at_ c hc 1 (by omega)]
  unfold bAt
  rw [List.getD_eq_getElem?_getD, List.getD_eq_getElem?_getD, List.getElem?_append_left (by rw [cellT_length]; omega)]
theorem at2 (t : TextOf m w h s) (c : Nat) (hc : c < w * h) : bAt s.data.toList (3 * c + 2) = sepT w c := by
  rw [t.at_ c hc 2 (by omega)]
  unfold bAt
  rw [List.getD_eq_getElem?_getD, List.getElem?_append_right (by rw [cellT_length]; omega), cellT_length]
  rfl
theorem cellF (t : TextOf m w h s) (c : Nat) (hc : c < w * h) : pc (bAt (cellT m c) 0) (bAt (cellT m c) 1) = zAt m.C c ∧ pr (bAt (cellT m c) 0) (bAt (cellT m c) 1) = zAt m.R c ∧ rd1 (bAt (cellT m c) 0) = zAt m.C c ∧ rd1 (bAt (cellT m c) 1) = zAt m.R c
    ∧ (bAt (cellT m c) 0 ≠ 10 ∧ bAt (cellT m c) 1 ≠ 10 ∧ bAt (cellT m c) 0 ≠ 32 ∧ bAt (cellT m c) 1 ≠ 32) := cell_pc (t.g.cell c hc) (t.all c hc)

/-- Where the newlines are. -/
theorem nl (t : TextOf m w h s) (i : Nat) (hi : i < 3 * (w * h)) : bAt s.data.toList i = 10 ↔ (i + 1) % (3 * w) = 0 := by
  have hw := t.g.w1
  have hdm := cell_split 3 i
  have hlt := Nat.mod_lt i (show 0 < 3 by omega)
  have hc : i / 3 < w * h := by omega
  have hF := t.cellF (i / 3) hc
  have hnd : ∀ j, j < 3 → i % 3 = j → ((i + 1) % (3 * w) = 0 ↔ (j = 2 ∧ (i / 3 + 1) % w = 0)) := by
    intro j hj e
    rcases Nat.lt_or_ge j 2 with h2 | h2
    · refine ⟨fun h => ?_, fun h => by omega⟩
      have : (i + 1) % 3 = 0 := by
        rw [← Nat.mod_mul_right_mod (i + 1) 3 w, h]
      omega
    · have : i + 1 = 3 * (i / 3 + 1) := by omega
      rw [this, Nat.mul_mod_mul_left]
      constructor
      · intro h; exact ⟨by omega, by omega⟩
      · intro h; rw [h.2]
  obtain h0 | h1 | h2 : i % 3 = 0 ∨ i % 3 = 1 ∨ i % 3 = 2 := by omega
  · rw [hnd 0 (by omega) h0, show i = 3 * (i / 3) by omega, t.at0 _ hc]
    refine ⟨fun e => absurd e ?_, fun e => by omega⟩
    exact hF.2.2.2.2.1
  · rw [hnd 1 (by omega) h1, show i = 3 * (i / 3) + 1 by omega, t.at1 _ hc]
    refine ⟨fun e => absurd e ?_, fun e => by omega⟩
    exact hF.2.2.2.2.2.1
  · rw [hnd 2 (by omega) h2]
    have e : bAt s.data.toList i = sepT w (i / 3) := by
      have := t.at2 (i / 3) hc
      rwa [show 3 * (i / 3) + 2 = i by omega] at this
    rw [e]
    unfold sepT
    split
    · rename_i h'
      exact ⟨fun _ => ⟨rfl, h'⟩, fun _ => rfl⟩
    · rename_i h'
      exact ⟨fun e => absurd e (by decide), fun e => absurd e.2 h'⟩
/-- Where the spaces are. -/
theorem sp (t : TextOf m w h s) (i : Nat) (hi : i < 3 * (w * h)) : bAt s.data.toList i = 32 ↔ (i % 3 = 2 ∧ (i / 3 + 1) % w ≠ 0) := by
  have hlt := Nat.mod_lt i (show 0 < 3 by omega)
  have hc : i / 3 < w * h := by omega
  have hF := t.cellF (i / 3) hc
  obtain h0 | h1 | h2 : i % 3 = 0 ∨ i % 3 = 1 ∨ i % 3 = 2 := by omega
  · have e : bAt s.data.toList i = bAt (cellT m (i / 3)) 0 := by
      have := t.at0 (i / 3) hc
      rwa [show 3 * (i / 3) = i by omega] at this
    rw [e]
    exact ⟨fun e => absurd e hF.2.2.2.2.2.2.1, fun e => by omega⟩
  · have e : bAt s.data.toList i = bAt (cellT m (i / 3)) 1 := by
      have := t.at1 (i / 3) hc
      rwa [show 3 * (i / 3) + 1 = i by omega] at this
    rw [e]
    exact ⟨fun e => absurd e hF.2.2.2.2.2.2.2, fun e => by omega⟩
  · have e : bAt s.data.toList i = sepT w (i / 3) := by
      have := t.at2 (i / 3) hc
      rwa [show 3 * (i / 3) + 2 = i by omega] at this
    rw [e]
    unfold sepT
    split
    · simp_all
    · simp_all

theorem pos (t : TextOf m w h s) : 3 * w ≤ 3 * (w * h) := by
  have := Nat.mul_le_mul_left w t.g.h1
  omega
theorem first (t : TextOf m w h s) : Lib.indexByte s.data.toList 10 = ((3 * w - 1 : Nat) : Int) := by
  have hw := t.g.w1
  have hp := t.pos
  have hsz : s.data.toList.length = 3 * (w * h) := by rw [t.list, txt_length]
  have hAt : ∀ i, i < 3 * (w * h) → s.data.toList[i]? = some (bAt s.data.toList i) := fun i hi => by
    unfold bAt
    rw [List.getD_eq_getElem?_getD, List.getElem?_eq_getElem (by omega)]
    rfl
  have hlast : s.data.toList[3 * w - 1]? = some 10 := by
    rw [hAt _ (by omega), (t.nl (3 * w - 1) (by omega)).2 (by rw [show 3 * w - 1 + 1 = 3 * w by omega]; exact Nat.mod_self _)]
  have hge := Lib.indexByte_ge s.data.toList 10
  rcases Int.lt_or_le (Lib.indexByte s.data.toList 10) 0 with hn | hn
  · exact absurd hlast (Lib.indexByte_none (by omega) _)
  · obtain ⟨o, ho⟩ : ∃ o : Nat, Lib.indexByte s.data.toList 10 = o := ⟨(Lib.indexByte s.data.toList 10).toNat, by omega⟩
    obtain ⟨h1, h2⟩ := Lib.indexByte_some ho
    have hlo : o < 3 * (w * h) := by
      rcases Nat.lt_or_ge o (3 * (w * h)) with h | h
      · exact h
      · rw [List.getElem?_eq_none (by omega)] at h1; cases h1
    rw [hAt o hlo] at h1
    have h3 := (t.nl o hlo).1 (by simpa using h1)
    have h4 : ¬ 3 * w - 1 < o := fun h => h2 _ h hlast
    have h5 : ¬ o < 3 * w - 1 := fun h => by rw [Nat.mod_eq_of_lt (by omega)] at h3; omega
    rw [ho]
    omega
end TextOf

/-- A text that is cut at every d-th byte. -/
theorem cut_reg (s : ByteArray) (c : UInt8) (d : Nat) (hd : 0 < d) (h : ∀ i, i < s.size → (bAt s.data.toList i = c ↔ (i + 1) % d = 0)) : ∀ k, k ≤ s.size → cut s c k = (d * (k / d), (List.range (k / d)).map fun j => s.extract (d * j) (d * j + (d - 1)))
  | 0, _ => by simp [cut]
  | k + 1, hk => by
    have ih := cut_reg s c d hd h k (by omega)
    have hk' : k < s.size := by omega
    have hb := bAt_eq s k hk'
    by_cases e : (k + 1) % d = 0
    · rw [cut_hit hk' (by rw [hb]; exact (h k hk').2 e), ih]
      have h1 : (k + 1) / d = k / d + 1 := by rw [Nat.succ_div, if_pos (Nat.dvd_of_mod_eq_zero e)]
      have h2 := cell_split d (k + 1)
      rw [e, h1, Nat.mul_add, Nat.mul_one] at h2
      have h3 : d * (k / d) + (d - 1) = k := by omega
      rw [h1, List.range_succ, List.map_append, List.map_cons, List.map_nil, h3]
      rw [Nat.mul_add, Nat.mul_one, show d * (k / d) + d = k + 1 by omega]
    · rw [cut_miss hk' (by rw [hb]; exact fun q => e ((h k hk').1 q)), ih]
      have h1 : (k + 1) / d = k / d := by rw [Nat.succ_div, if_neg (fun q => e (Nat.mod_eq_zero_of_dvd q)), Nat.add_zero]
      rw [h1]

theorem bAt_extract (s : ByteArray) (a b i : Nat) (hi : a + i < b) (hb : b ≤ s.size) : bAt (s.extract a b).data.toList i = bAt s.data.toList (a + i) := by
  have hz : i < (s.extract a b).size := by rw [ByteArray.size_extract]; omega
  rw [← bAt_eq _ i hz, ← bAt_eq s (a + i) (by omega)]
  exact ByteArray.getElem_extract _

namespace TextOf
variable {m : Mp} {w h : Nat} {s : ByteArray}
theorem row_le (t : TextOf m w h s) (y : Nat) (hy : y < h) : 3 * w * y + 3 * w ≤ 3 * (w * h) := by
  have := Nat.mul_le_mul_left (3 * w) (show y + 1 ≤ h from hy)
  rw [Nat.mul_add, Nat.mul_one] at this
  rwa [Nat.mul_assoc 3 w h] at this
theorem lines (t : TextOf m w h s) : (parts s 10).length = h + 1 ∧ ∀ y, y < h → sAt (parts s 10) y = s.extract (3 * w * y) (3 * w * y + (3 * w - 1)) := by
  have hw := t.g.w1
  have hsz := t.size
  have hc := cut_reg s 10 (3 * w) (by omega) (fun i hi => t.nl i (by omega)) s.size (Nat.le_refl _)
  have hq : s.size / (3 * w) = h := by rw [hsz, ← Nat.mul_assoc]; exact Nat.mul_div_cancel_left h (by omega)
  unfold parts
  rw [hc, hq]
  refine ⟨by simp, fun y hy => ?_⟩
  unfold sAt
  simp [List.getD_eq_getElem?_getD, List.getElem?_append_left, hy]
theorem words (t : TextOf m w h s) (y : Nat) (hy : y < h) : (parts (sAt (parts s 10) y) 32).length = w ∧ ∀ x, x < w → (sAt (parts (sAt (parts s 10) y) 32) x).size = 2 ∧ bAt (sAt (parts (sAt (parts s 10) y) 32) x).data.toList 0 = bAt (cellT m (y * w + x)) 0 ∧ bAt (sAt (parts (sAt (parts s 10) y) 32) x).data.toList 1 = bAt (cellT m (y * w + x)) 1 := by
  have hw := t.g.w1
  have hsz := t.size
  have hrow := t.row_le y hy
  rw [t.lines.2 y hy]
  generalize hL : s.extract (3 * w * y) (3 * w * y + (3 * w - 1)) = L
  have hLs : L.size = 3 * w - 1 := by rw [← hL, ByteArray.size_extract]; omega
  have hLb : ∀ i, i < 3 * w - 1 → bAt L.data.toList i = bAt s.data.toList (3 * w * y + i) := fun i hi => by rw [← hL]; exact bAt_extract s _ _ i (by omega) (by omega)
  have hreg : ∀ i, i < L.size → (bAt L.data.toList i = 32 ↔ (i + 1) % 3 = 0) := by
    intro i hi
    rw [hLs] at hi
    rw [hLb i hi, t.sp _ (by omega)]
    have e1 : (3 * w * y + i) % 3 = i % 3 := by rw [Nat.mul_assoc, Nat.mul_add_mod]
    have e2 : (3 * w * y + i) / 3 = w * y + i / 3 := by rw [Nat.mul_assoc, Nat.mul_add_div (by omega)]
    rw [e1, e2, Nat.add_assoc, Nat.mul_add_mod]
    constructor
    · intro h; omega
    · intro h
      refine ⟨by omega, ?_⟩
      rw [Nat.mod_eq_of_lt (by omega)]
      omega
  have hc := cut_reg L 32 3 (by omega) hreg L.size (Nat.le_refl _)
  have hq : L.size / 3 = w - 1 := by rw [hLs]; omega
  have hall : parts L 32 = (List.range w).map fun j => L.extract (3 * j) (3 * j + 2) := by
    unfold parts
    rw [hc, hq]
    have : List.range w = List.range (w - 1) ++ [w - 1] := by rw [← List.range_succ]; congr 1; omega
    rw [this, List.map_append, List.map_cons, List.map_nil, hLs]
    congr 3
    omega
  rw [hall]
  refine ⟨by simp, fun x hx => ?_⟩
  have hxs : sAt ((List.range w).map fun j => L.extract (3 * j) (3 * j + 2)) x = L.extract (3 * x) (3 * x + 2) := by
    unfold sAt
    simp [List.getD_eq_getElem?_getD, hx]
  have hcell : y * w + x < w * h := by
    have := Nat.mul_le_mul_right w (show y + 1 ≤ h from hy)
    rw [Nat.add_mul, Nat.one_mul, Nat.mul_comm h w] at this
    omega
  have hpos : 3 * w * y + 3 * x = 3 * (y * w + x) := by rw [Nat.mul_add, Nat.mul_comm y w, Nat.mul_assoc]
  rw [hxs]
  refine ⟨by rw [ByteArray.size_extract]; omega, ?_, ?_⟩
  · rw [bAt_extract L _ _ 0 (by omega) (by omega), hLb _ (by omega), Nat.add_zero, hpos]
    exact t.at0 _ hcell
  · rw [bAt_extract L _ _ 1 (by omega) (by omega), hLb _ (by omega), ← Nat.add_assoc, hpos]
    exact t.at1 _ hcell

end TextOf

end Go.Proofs.Ytdphliobjafjaaa.Lb
