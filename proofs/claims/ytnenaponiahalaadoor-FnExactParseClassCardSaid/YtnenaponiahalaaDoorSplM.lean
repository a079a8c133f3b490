/- Splitting strings: plain lemmas. -/
import Derived.Test.YtnenaponiahalaaDoorJoinM
import Derived.WalkSpells
namespace Go.Proofs.YtnenaponiahalaaDoor.Lb
open Go.RowKit

/-- Where the part under way begins, and the parts before it, after 'k' bytes. -/
def cut (s : ByteArray) (c : UInt8) : Nat → Nat × List ByteArray
  | 0 => (0, [])
  | k + 1 => if h : k < s.size then (if s[k] = c then (k + 1, (cut s c k).2 ++ [s.extract (cut s c k).1 k]) else cut s c k) else cut s c k

def parts (s : ByteArray) (c : UInt8) : List ByteArray := (cut s c s.size).2 ++ [s.extract (cut s c s.size).1 s.size]

theorem cut_hit {s : ByteArray} {c : UInt8} {k : Nat} (h : k < s.size) (e : s[k] = c) : cut s c (k + 1) = (k + 1, (cut s c k).2 ++ [s.extract (cut s c k).1 k]) := by
  rw [cut, dif_pos h, if_pos e]
theorem cut_miss {s : ByteArray} {c : UInt8} {k : Nat} (h : k < s.size) (e : s[k] ≠ c) : cut s c (k + 1) = cut s c k := by
  rw [cut, dif_pos h, if_neg e]

theorem cut_le (s : ByteArray) (c : UInt8) : ∀ k, (cut s c k).1 ≤ k ∧ (cut s c k).2.length ≤ k
  | 0 => ⟨Nat.le_refl _, Nat.le_refl _⟩
  | k + 1 => by
    have ih := cut_le s c k
    rw [cut]
    split
    · split
      · simp; omega
      · omega
    · omega

theorem parts_length (s : ByteArray) (c : UInt8) : (parts s c).length ≤ s.size + 1 ∧ 0 < (parts s c).length := by
  have := cut_le s c s.size
  unfold parts
  simp; omega

theorem parts_ne (s : ByteArray) (c : UInt8) : parts s c ≠ [] := by unfold parts; simp

theorem cut_total (s : ByteArray) (c : UInt8) : ∀ k, k ≤ s.size → total (cut s c k).2 + (cut s c k).2.length = (cut s c k).1
  | 0, _ => by simp [cut, total]
  | k + 1, h => by
    have ih := cut_total s c k (by omega)
    have hl := cut_le s c k
    rw [cut, dif_pos (by omega)]
    split
    · simp only [total_append, total, List.length_append, List.length_cons, List.length_nil, ByteArray.size_extract]
      omega
    · exact ih

theorem parts_total (s : ByteArray) (c : UInt8) : total (parts s c) + (parts s c).length = s.size + 1 := by
  have h := cut_total s c s.size (Nat.le_refl _)
  have hl := cut_le s c s.size
  unfold parts
  simp only [total_append, total, List.length_append, List.length_cons, List.length_nil, ByteArray.size_extract]
  omega

theorem sAt_le (ss : List ByteArray) (k : Nat) : (sAt ss k).size ≤ total ss := size_le_total ss k

end Go.Proofs.YtnenaponiahalaaDoor.Lb
