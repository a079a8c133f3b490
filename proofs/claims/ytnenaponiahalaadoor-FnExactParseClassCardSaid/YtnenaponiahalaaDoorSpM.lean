/- Pieces of a text between blanks: plain lemmas. -/
import Derived.Test.YtnenaponiahalaaDoorSJM
import Derived.Lib.CutLaws
namespace Go.Proofs.YtnenaponiahalaaDoor.PfM
open Go.RowKit Lb
set_option linter.unusedVariables false

/-- The pieces between the bytes 'c'. -/
def spl (c : UInt8) : List UInt8 → List (List UInt8)
  | [] => [[]]
  | b :: l => if b = c then [] :: spl c l else match spl c l with
    | [] => [[b]]
    | w :: r => (b :: w) :: r
theorem spl_ne (c : UInt8) : ∀ l, spl c l ≠ []
  | [] => by simp [spl]
  | b :: l => by
    unfold spl
    split
    · simp
    · split <;> simp
theorem spl_sep (c : UInt8) (b : List UInt8) : ∀ a, spl c (a ++ c :: b) = spl c a ++ spl c b
  | [] => by simp [spl]
  | x :: a => by
    have ih := spl_sep c b a
    rw [List.cons_append, spl, spl, ih]
    by_cases e : x = c
    · rw [if_pos e, if_pos e]; rfl
    · rw [if_neg e, if_neg e]
      cases hs : spl c a with
      | nil => exact absurd hs (spl_ne c a)
      | cons w r => rfl
theorem spl_clean (c : UInt8) : ∀ l : List UInt8, c ∉ l → spl c l = [l]
  | [], _ => rfl
  | b :: l, h => by
    have h1 : c ∉ l := fun m => h (List.mem_cons_of_mem _ m)
    have h2 : b ≠ c := fun e => h (by rw [e]; exact List.mem_cons_self)
    rw [spl, if_neg h2, spl_clean c l h1]
theorem join_two (x y : List UInt8) (r : List (List UInt8)) (c : UInt8) : Lib.join (x :: y :: r) [c] = x ++ c :: Lib.join (y :: r) [c] := by
  rw [Lib.join_cons, Lib.join_cons]
  simp [Lib.joinTail]
theorem spl_join (c : UInt8) : ∀ ws : List (List UInt8), ws ≠ [] → (∀ w ∈ ws, c ∉ w) → spl c (Lib.join ws [c]) = ws
  | [], h, _ => absurd rfl h
  | [x], _, h => by rw [Lib.join_one]; exact spl_clean c x (h x (by simp))
  | x :: y :: r, _, h => by
    rw [join_two, spl_sep, spl_clean c x (h x (by simp)), spl_join c (y :: r) (by simp) (fun w hw => h w (by simp at hw ⊢; exact .inr hw))]
    rfl
theorem join_spl (c : UInt8) : ∀ l : List UInt8, Lib.join (spl c l) [c] = l
  | [] => by simp [spl, Lib.join_one]
  | b :: l => by
    have ih := join_spl c l
    rw [spl]
    by_cases e : b = c
    · rw [if_pos e]
      cases hs : spl c l with
      | nil => exact absurd hs (spl_ne c l)
      | cons w r => rw [join_two, ← hs, ih, e]; rfl
    · rw [if_neg e]
      cases hs : spl c l with
      | nil => exact absurd hs (spl_ne c l)
      | cons w r =>
        rw [hs] at ih
        cases r with
        | nil => rw [Lib.join_one] at ih ⊢; rw [ih]
        | cons y r => rw [join_two] at ih ⊢; rw [List.cons_append, ih]
theorem parts_spl (s : ByteArray) (c : UInt8) : (parts s c).map (·.data.toList) = spl c s.data.toList := by
  rw [← SJM.parts_join s c, spl_join]
  · simp [parts_ne]
  · intro w hw hc
    obtain ⟨p, hp, rfl⟩ := List.mem_map.1 hw
    obtain ⟨i, hi, rfl⟩ := List.mem_iff_getElem.1 hp
    have := SJM.parts_clean s c i hi
    unfold hasB at this
    rw [show sAt (parts s c) i = (parts s c)[i] from by simp [sAt, hi]] at this
    rw [List.contains_iff_mem.2 hc] at this
    cases this

theorem data_inj {a b : ByteArray} (h : a.data.toList = b.data.toList) : a = b := by
  cases a; cases b
  simp only [ByteArray.mk.injEq]
  exact Array.toList_inj.1 h
theorem map_inj : ∀ {a b : List ByteArray}, a.map (·.data.toList) = b.map (·.data.toList) → a = b
  | [], [], _ => rfl
  | [], _ :: _, h => by simp at h
  | _ :: _, [], h => by simp at h
  | x :: a, y :: b, h => by
    simp only [List.map_cons, List.cons.injEq] at h
    rw [data_inj h.1, map_inj h.2]
end Go.Proofs.YtnenaponiahalaaDoor.PfM
