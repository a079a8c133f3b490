/- Plain lemmas on checksums: no program is named here. -/
import Derived.WalkKit
namespace Go.Proofs.YtcilgbniahaejaaDoor.Ck

def sumStep (h : Int) (c : UInt8) : Int := (41 * h + (c.toNat : Int) + 1) % 999979
def sum (l : List UInt8) : Int := l.foldl sumStep 7

theorem step_bd (h : Int) (c : UInt8) : 0 ≤ sumStep h c ∧ sumStep h c < 999979 := by
  unfold sumStep; omega

theorem sum_snoc (l : List UInt8) (c : UInt8) : sum (l ++ [c]) = sumStep (sum l) c := by
  simp [sum]

theorem sum_bd (l : List UInt8) : 0 ≤ sum l ∧ sum l < 999979 := by
  rcases List.eq_nil_or_concat l with rfl | ⟨l', c, rfl⟩
  · decide
  · rw [List.concat_eq_append, sum_snoc]; exact step_bd _ _

theorem take_snoc (s : ByteArray) (k : Nat) (h : k < s.size) : s.data.toList.take (k + 1) = s.data.toList.take k ++ [s[k]] := by
  rw [List.take_succ_eq_append_getElem (by simpa using h)]; rfl

end Go.Proofs.YtcilgbniahaejaaDoor.Ck
