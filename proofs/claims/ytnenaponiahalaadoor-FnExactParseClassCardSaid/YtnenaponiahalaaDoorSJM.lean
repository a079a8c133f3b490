/- Splitting and joining are inverse; the order of strings is strict: plain lemmas. -/
import Derived.Test.YtnenaponiahalaaDoorSplM
import Derived.Lib.Strings
namespace Go.Proofs.YtnenaponiahalaaDoor.SJM
open Go.RowKit Lb

theorem byteAt (s : ByteArray) (k : Nat) (h : k < s.size) : s.data.toList[k]? = some s[k] := by
  rw [List.getElem?_eq_getElem (by simpa using h)]; rfl

theorem take_mid (l : List UInt8) (k e : Nat) (c : UInt8) (hc : l[k]? = some c) (he : k + 1 ≤ e) : l.take k ++ [c] ++ (l.drop (k + 1)).take (e - (k + 1)) = l.take e := by
  have hk : k < l.length := (List.getElem?_eq_some_iff.1 hc).1
  have h1 : l.take k ++ [c] = l.take (k + 1) := by
    rw [List.take_succ_eq_append_getElem hk]
    have := (List.getElem?_eq_some_iff.1 hc).2
    rw [this]
  rw [h1]
  have h2 : l.take e = l.take (k + 1) ++ (l.take e).drop (k + 1) := by
    have := (List.take_append_drop (k + 1) (l.take e)).symm
    rwa [List.take_take, Nat.min_eq_left he] at this
  rw [h2, List.drop_take]

theorem cut_join (s : ByteArray) (c : UInt8) : ∀ k, k ≤ s.size → ∀ e, (cut s c k).1 ≤ e →
    Lib.join (((cut s c k).2 ++ [s.extract (cut s c k).1 e]).map (·.data.toList)) [c] = s.data.toList.take e
  | 0, _, e, _ => by
    simp only [cut, List.nil_append, List.map_cons, List.map_nil, Lib.join_one]
    rw [Lib.extract_data]
    simp
  | k + 1, hk, e, he => by
    by_cases h : s[k] = c
    · rw [cut_hit (by omega) h] at he ⊢
      simp only at he ⊢
      rw [List.map_append, List.map_cons, List.map_nil, join_snoc _ _ _ (by simp), cut_join s c k (by omega) k (cut_le s c k).1, Lib.extract_data]
      exact take_mid _ k e c (by rw [byteAt s k (by omega), h]) he
    · rw [cut_miss (by omega) h] at he ⊢
      exact cut_join s c k (by omega) e he

theorem parts_join (s : ByteArray) (c : UInt8) : Lib.join ((parts s c).map (·.data.toList)) [c] = s.data.toList := by
  unfold parts
  rw [cut_join s c s.size (Nat.le_refl _) s.size (cut_le s c s.size).1, List.take_of_length_le]
  exact Nat.le_of_eq Array.length_toList

theorem one_byte (sep : ByteArray) (h1 : sep.size = 1) (hp : 0 < sep.size) : sep.data.toList = [sep[0]] := by
  have hl : sep.data.toList.length = 1 := by rw [Array.length_toList]; exact h1
  match hs : sep.data.toList, hl with
  | [x], _ =>
    have := byteAt sep 0 hp
    rw [hs] at this
    simp at this
    rw [this]

theorem parts_back (s sep : ByteArray) (h1 : sep.size = 1) (hp : 0 < sep.size) : jn sep (parts s sep[0]) (parts s sep[0]).length = s := by
  rw [← jn_all, one_byte sep h1 hp, parts_join]

theorem hasB_extract (s : ByteArray) (c : UInt8) (f k : Nat) (hk : k ≤ s.size) (h : ∀ i, f ≤ i → i < k → ∀ (hi : i < s.size), s[i] ≠ c) : hasB (s.extract f k) c = false := by
  apply hasB_none
  intro i hi
  have hi' : i < k - f := by rw [ByteArray.size_extract] at hi; omega
  rw [ByteArray.getElem_extract]
  exact h (f + i) (by omega) (by omega) (by omega)

theorem cut_clean (s : ByteArray) (c : UInt8) : ∀ k, k ≤ s.size → (∀ i, (cut s c k).1 ≤ i → i < k → ∀ (hi : i < s.size), s[i] ≠ c) ∧ ∀ p ∈ (cut s c k).2, hasB p c = false
  | 0, _ => ⟨fun i _ h => by omega, fun p hp => by simp [cut] at hp⟩
  | k + 1, hk => by
    obtain ⟨ih1, ih2⟩ := cut_clean s c k (by omega)
    by_cases h : s[k] = c
    · rw [cut_hit (by omega) h]
      refine ⟨fun i h1 h2 => by simp only at h1; omega, fun p hp => ?_⟩
      rcases List.mem_append.1 hp with hp | hp
      · exact ih2 p hp
      · simp only [List.mem_singleton] at hp
        subst hp
        exact hasB_extract s c _ k (by omega) ih1
    · rw [cut_miss (by omega) h]
      refine ⟨fun i h1 h2 hi => ?_, ih2⟩
      by_cases e : i = k
      · subst e; exact h
      · exact ih1 i h1 (by omega) hi

theorem parts_clean (s : ByteArray) (c : UInt8) (i : Nat) (hi : i < (parts s c).length) : hasB (sAt (parts s c) i) c = false := by
  obtain ⟨h1, h2⟩ := cut_clean s c s.size (Nat.le_refl _)
  have hm : sAt (parts s c) i ∈ parts s c := by
    have : sAt (parts s c) i = (parts s c)[i] := by simp [sAt, hi]
    rw [this]; exact List.getElem_mem hi
  generalize sAt (parts s c) i = p at hm
  unfold parts at hm
  rcases List.mem_append.1 hm with hp | hp
  · exact h2 p hp
  · simp only [List.mem_singleton] at hp
    subst hp
    exact hasB_extract s c _ _ (Nat.le_refl _) h1

theorem parts_good (s : ByteArray) (c : UInt8) (hs : s.size ≤ 4000) (i : Nat) (hi : i < (parts s c).length) : ¬ JBad c (parts s c) i := by
  rintro (h | h)
  · rw [parts_clean s c i hi] at h; cases h
  · have h1 := parts_total s c
    have h2 : total ((parts s c).take (i + 1)) + total ((parts s c).drop (i + 1)) = total (parts s c) := by rw [← total_append, List.take_append_drop]
    omega

theorem less_asymm : ∀ (a b : List UInt8), Op.bytesLess a b = true → Op.bytesLess b a = false
  | a, [], h => by simp [Op.bytesLess] at h
  | [], _ :: _, _ => by simp [Op.bytesLess]
  | a :: x, b :: y, h => by
    simp only [Op.bytesLess, Bool.or_eq_true, Bool.and_eq_true, decide_eq_true_eq, beq_iff_eq] at h
    rcases h with h | ⟨rfl, h⟩
    · have h1 : ¬ b < a := by rw [UInt8.lt_iff_toNat_lt] at h ⊢; omega
      have h2 : b ≠ a := by intro e; subst e; rw [UInt8.lt_iff_toNat_lt] at h; omega
      simp [Op.bytesLess, h1, h2]
    · have h1 : ¬ a < a := by rw [UInt8.lt_iff_toNat_lt]; omega
      simp [Op.bytesLess, h1, less_asymm x y h]

end Go.Proofs.YtnenaponiahalaaDoor.SJM
