/- The text of a map: plain lemmas. -/
import Derived.Test.YtdphliobjafjaaaPartM
namespace Go.Proofs.Ytdphliobjafjaaa.Lb
set_option linter.unusedVariables false

def bs (l : List UInt8) : ByteArray := ⟨l.toArray⟩
theorem bs_size (l : List UInt8) : (bs l).size = l.length := by simp [bs, ByteArray.size]
theorem bs_append (a b : List UInt8) : bs a ++ bs b = bs (a ++ b) := by
  have : (bs a ++ bs b).data = (bs (a ++ b)).data := by
    rw [ByteArray.data_append]; simp [bs]
  exact ByteArray.ext this
theorem bs_inj {a b : List UInt8} (h : bs a = bs b) : a = b := by
  have := congrArg (fun x => x.data.toList) h
  simpa [bs] using this

/-- A digit. -/
def dg (z : Int) : UInt8 := UInt8.ofNat (48 + z.toNat)
theorem dg_toNat {z : Int} (h0 : 0 ≤ z) (h9 : z ≤ 9) : ((dg z).toNat : Int) = 48 + z := by
  unfold dg
  rw [UInt8.toNat_ofNat']
  omega
theorem dg_inj {a b : Int} (ha : 0 ≤ a) (ha9 : a ≤ 9) (hb : 0 ≤ b) (hb9 : b ≤ 9) (h : dg a = dg b) : a = b := by
  have h1 := dg_toNat ha ha9
  have h2 := dg_toNat hb hb9
  rw [h] at h1
  omega

/-- The two bytes of a cell; the byte behind it. -/
def cellT (m : Mp) (c : Nat) : List UInt8 := if 0 < zAt m.C c then [dg (zAt m.C c), dg (zAt m.R c)] else [35, 35]
def sepT (w c : Nat) : UInt8 := if (c + 1) % w = 0 then 10 else 32
def txt (m : Mp) (w : Nat) : Nat → List UInt8
  | 0 => []
  | k + 1 => txt m w k ++ cellT m k ++ [sepT w k]
theorem cellT_length (m : Mp) (c : Nat) : (cellT m c).length = 2 := by unfold cellT; split <;> rfl
theorem txt_length (m : Mp) (w k : Nat) : (txt m w k).length = 3 * k := by
  induction k with
  | zero => rfl
  | succ k ih => rw [txt, List.length_append, List.length_append, ih, cellT_length]; simp; omega
/-- Whether a cell has a text. -/
def HasT (m : Mp) (c : Nat) : Prop := 0 < zAt m.C c ∨ zAt m.R c = 0
instance (m : Mp) (c : Nat) : Decidable (HasT m c) := by unfold HasT; infer_instance

/-- The model's text, as far as it goes: without the space behind the last cell. -/
def mtx (m : Mp) (w : Nat) : Nat → List UInt8
  | 0 => []
  | k + 1 => txt m w k ++ cellT m k ++ (if (k + 1) % w = 0 then [10] else [])
theorem mtx_sp (m : Mp) (w k : Nat) (h : k % w ≠ 0) : mtx m w k ++ [32] = txt m w k := by
  cases k with
  | zero => simp at h
  | succ k => rw [mtx, txt, sepT, if_neg h, if_neg h]; simp
theorem mtx_nl (m : Mp) (w k : Nat) (h : k % w = 0) : mtx m w k = txt m w k := by
  cases k with
  | zero => rfl
  | succ k => rw [mtx, txt, sepT, if_pos h, if_pos h]
theorem mtx_length (m : Mp) (w k : Nat) : (mtx m w k).length ≤ 3 * k := by
  by_cases h : k % w = 0
  · rw [mtx_nl m w k h, txt_length]; omega
  · have := congrArg List.length (mtx_sp m w k h)
    rw [List.length_append, txt_length] at this
    simp at this
    omega
theorem succ_mod {w k : Nat} (hw : 1 ≤ w) : ((k + 1) % w = 0) ↔ k % w = w - 1 := by
  have h1 := cell_split w k
  have h2 : k % w < w := Nat.mod_lt _ hw
  generalize k / w = q at h1
  generalize k % w = r at h1 h2
  subst h1
  by_cases e : r = w - 1
  · have : w * q + r + 1 = w * (q + 1) := by rw [Nat.mul_add, Nat.mul_one]; omega
    rw [this, Nat.mul_mod_right]
    exact ⟨fun _ => e, fun _ => rfl⟩
  · have : (w * q + r + 1) % w = r + 1 := by
      rw [Nat.add_assoc, Nat.mul_add_mod, Nat.mod_eq_of_lt (by omega)]
    rw [this]
    exact ⟨fun h => by omega, fun h => absurd h e⟩

end Go.Proofs.Ytdphliobjafjaaa.Lb
