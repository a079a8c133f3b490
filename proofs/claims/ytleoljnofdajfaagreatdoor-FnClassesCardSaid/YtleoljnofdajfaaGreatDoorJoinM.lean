/- Joining strings: plain lemmas. -/
import Derived.Test.YtleoljnofdajfaaGreatDoorLib
import Derived.Lib.Join
namespace Go.Proofs.YtleoljnofdajfaaGreatDoor.Lb
open Go.RowKit

def hasB (s : ByteArray) (c : UInt8) : Bool := s.data.toList.contains c

theorem hasB_at {s : ByteArray} {c : UInt8} (k : Nat) (h : k < s.size) (e : s[k] = c) : hasB s c = true := by
  unfold hasB
  rw [List.contains_iff_mem]
  subst e
  exact Array.getElem_mem_toList h

theorem hasB_none {s : ByteArray} {c : UInt8} (h : ∀ i (hi : i < s.size), s[i] ≠ c) : hasB s c = false := by
  unfold hasB
  rw [Bool.eq_false_iff]
  intro hc
  rw [List.contains_iff_mem] at hc
  obtain ⟨i, hi, e⟩ := List.mem_iff_getElem.1 hc
  exact h i (by simpa using hi) e

theorem hasB_no {s : ByteArray} {c : UInt8} (h : hasB s c = false) (k : Nat) (hk : k < s.size) : s[k] ≠ c := by
  intro e
  rw [hasB_at k hk e] at h
  cases h

theorem u8_beq_yes {a b : UInt8} (h : a = b) : ((a.toNat : Int) == (b.toNat : Int)) = true := by subst h; simp
theorem u8_beq_no {a b : UInt8} (h : a ≠ b) : ((a.toNat : Int) == (b.toNat : Int)) = false := by
  simp only [beq_eq_false_iff_ne, ne_eq, Int.natCast_inj]
  exact fun e => h (UInt8.toNat_inj.1 e)

/-- The first 'k' strings, joined, as the model's text builds it. -/
def jn (sep : ByteArray) (ss : List ByteArray) : Nat → ByteArray
  | 0 => ByteArray.empty
  | 1 => sAt ss 0
  | k + 2 => jn sep ss (k + 1) ++ sep ++ sAt ss (k + 1)

theorem jn_succ (sep : ByteArray) (ss : List ByteArray) (k : Nat) (h : 0 < k) : jn sep ss (k + 1) = jn sep ss k ++ sep ++ sAt ss k := by
  cases k with
  | zero => omega
  | succ k => rfl

theorem size_append' (a b : ByteArray) : (a ++ b).size = a.size + b.size := ByteArray.size_append

theorem jn_size (sep : ByteArray) (ss : List ByteArray) (hsep : sep.size = 1) : ∀ k, k ≤ ss.length → (jn sep ss k).size = total (ss.take k) + (k - 1)
  | 0, _ => by simp [jn, total]
  | 1, h => by rw [total_take ss 0 (by omega)]; simp [jn, total]
  | k + 2, h => by
    rw [jn_succ sep ss (k + 1) (by omega), size_append', size_append', jn_size sep ss hsep (k + 1) (by omega), hsep, total_take ss (k + 1) (by omega)]
    omega

theorem join_snoc (xs : List (List UInt8)) (x sep : List UInt8) (h : xs ≠ []) : Lib.join (xs ++ [x]) sep = Lib.join xs sep ++ sep ++ x := by
  cases xs with
  | nil => exact absurd rfl h
  | cons y r => rw [List.cons_append, Lib.join_cons, Lib.join_cons]; simp [Lib.joinTail, List.append_assoc]

theorem jn_data (sep : ByteArray) (ss : List ByteArray) : ∀ k, k ≤ ss.length → (jn sep ss k).data.toList = Lib.join ((ss.take k).map (·.data.toList)) sep.data.toList
  | 0, _ => by simp [jn, Lib.join_nil]
  | 1, h => by
    rw [take_succ_getD ss ByteArray.empty 0 (by omega)]
    simp [jn, Lib.join_one, sAt]
  | k + 2, h => by
    rw [jn_succ sep ss (k + 1) (by omega), take_succ_getD ss ByteArray.empty (k + 1) (by omega), List.map_append, List.map_cons, List.map_nil,
      join_snoc _ _ _ (by intro e; have e2 := congrArg List.length e; rw [List.length_map, List.length_take, List.length_nil] at e2; omega), ByteArray.toList_data_append, ByteArray.toList_data_append, jn_data sep ss (k + 1) (by omega)]
    rfl

theorem jn_all (sep : ByteArray) (ss : List ByteArray) : (⟨(Lib.join (ss.map (·.data.toList)) sep.data.toList).toArray⟩ : ByteArray) = jn sep ss ss.length := by
  have h := jn_data sep ss ss.length (Nat.le_refl _)
  rw [List.take_length] at h
  rw [← h]

theorem join_length (sep : ByteArray) (ss : List ByteArray) (hsep : sep.size = 1) : (Lib.join (ss.map (·.data.toList)) sep.data.toList).length = total ss + (ss.length - 1) := by
  have h := jn_size sep ss hsep ss.length (Nat.le_refl _)
  rw [← jn_all, List.take_length] at h
  exact h

/-- Whether the join stops at the 'i'-th string: it holds the separator, or all is too long by then. -/
def JBad (c : UInt8) (ss : List ByteArray) (i : Nat) : Prop := hasB (sAt ss i) c = true ∨ 4000 < total (ss.take (i + 1)) + i

/-- What JoinStrings answers: the text and whether there is one. -/
def JOk (sep : ByteArray) (ss : List ByteArray) : Prop := sep.size = 1 ∧ ss ≠ [] ∧ ∀ (h : 0 < sep.size), ∀ i, i < ss.length → ¬ JBad sep[0] ss i

theorem cells_of_row {w : World} {b off : Nat} {ss : List ByteArray} (hc : ∀ k, k < ss.length → w.cell? ⟨b, off + k, none⟩ = some (.string (sAt ss k))) :
    ∀ (j : Nat) x, ss[j]? = some x → w.cell? ⟨b, off + j, none⟩ = some (.string x) := by
  intro j x hx
  have hj : j < ss.length := (List.getElem?_eq_some_iff.1 hx).1
  rw [hc j hj]
  simp [sAt, List.getD, hx]

end Go.Proofs.YtleoljnofdajfaaGreatDoor.Lb
