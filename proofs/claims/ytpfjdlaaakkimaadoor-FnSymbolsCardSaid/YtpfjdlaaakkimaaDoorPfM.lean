/- A feature read from its text: plain lemmas. -/
import Derived.Test.YtpfjdlaaakkimaaDoorTxF
import Derived.Test.YtpfjdlaaakkimaaDoorSJM
import Derived.Test.YtpfjdlaaakkimaaDoorNumM
import Derived.Lib.CutLaws
namespace Go.Proofs.YtpfjdlaaakkimaaDoor.PfM
open Go.RowKit Lb Fmt NumM TxF
set_option linter.unusedVariables false

/-- The pieces between the bytes 'c'. -/
def spl (c : UInt8) : List UInt8 → List (List UInt8)
  | [] => [[]]
  | b :: l => if b = c then [] :: spl c l else match spl c l with
    | [] => [[b]]
    | w :: r => (b :: w) :: r
theorem spl_ne (c : UInt8) : ∀ l, spl c l ≠ []
  | [] => by simp [spl]
  | b :: l => by
    unfold spl
    split
    · simp
    · split <;> simp
theorem spl_sep (c : UInt8) (b : List UInt8) : ∀ a, spl c (a ++ c :: b) = spl c a ++ spl c b
  | [] => by simp [spl]
  | x :: a => by
    have ih := spl_sep c b a
    rw [List.cons_append, spl, spl, ih]
    by_cases e : x = c
    · rw [if_pos e, if_pos e]; rfl
    · rw [if_neg e, if_neg e]
      cases hs : spl c a with
      | nil => exact absurd hs (spl_ne c a)
      | cons w r => rfl
theorem spl_clean (c : UInt8) : ∀ l : List UInt8, c ∉ l → spl c l = [l]
  | [], _ => rfl
  | b :: l, h => by
    have h1 : c ∉ l := fun m => h (List.mem_cons_of_mem _ m)
    have h2 : b ≠ c := fun e => h (by rw [e]; exact List.mem_cons_self)
    rw [spl, if_neg h2, spl_clean c l h1]
theorem join_two (x y : List UInt8) (r : List (List UInt8)) (c : UInt8) : Lib.join (x :: y :: r) [c] = x ++ c :: Lib.join (y :: r) [c] := by
  rw [Lib.join_cons, Lib.join_cons]
  simp [Lib.joinTail]
theorem spl_join (c : UInt8) : ∀ ws : List (List UInt8), ws ≠ [] → (∀ w ∈ ws, c ∉ w) → spl c (Lib.join ws [c]) = ws
  | [], h, _ => absurd rfl h
  | [x], _, h => by rw [Lib.join_one]; exact spl_clean c x (h x (by simp))
  | x :: y :: r, _, h => by
    rw [join_two, spl_sep, spl_clean c x (h x (by simp)), spl_join c (y :: r) (by simp) (fun w hw => h w (by simp at hw ⊢; exact .inr hw))]
    rfl
theorem join_spl (c : UInt8) : ∀ l : List UInt8, Lib.join (spl c l) [c] = l
  | [] => by simp [spl, Lib.join_one]
  | b :: l => by
    have ih := join_spl c l
    rw [spl]
    by_cases e : b = c
    · rw [if_pos e]
      cases hs : spl c l with
      | nil => exact absurd hs (spl_ne c l)
      | cons w r => rw [join_two, ← hs, ih, e]; rfl
    · rw [if_neg e]
      cases hs : spl c l with
      | nil => exact absurd hs (spl_ne c l)
      | cons w r =>
        rw [hs] at ih
        cases r with
        | nil => rw [Lib.join_one] at ih ⊢; rw [ih]
        | cons y r => rw [join_two] at ih ⊢; rw [List.cons_append, ih]
theorem parts_spl (s : ByteArray) (c : UInt8) : (parts s c).map (·.data.toList) = spl c s.data.toList := by
  rw [← SJM.parts_join s c, spl_join]
  · simp [parts_ne]
  · intro w hw hc
    obtain ⟨p, hp, rfl⟩ := List.mem_map.1 hw
    obtain ⟨i, hi, rfl⟩ := List.mem_iff_getElem.1 hp
    have := SJM.parts_clean s c i hi
    unfold hasB at this
    rw [show sAt (parts s c) i = (parts s c)[i] from by simp [sAt, hi]] at this
    rw [List.contains_iff_mem.2 hc] at this
    cases this

/-- A list around a mark that is nowhere else. -/
theorem mark_unique {α : Type} {s d : α} {A B P : List α} (hP : s ∉ P) (hd : s ≠ d) (h : A ++ s :: B = P ++ [s, d]) : A = P := by
  have hl : A.length = P.length := by
    rcases Nat.lt_trichotomy A.length P.length with h1 | h1 | h1
    · have h2 : (A ++ s :: B)[A.length]? = (P ++ [s, d])[A.length]? := by rw [h]
      rw [List.getElem?_append_right (Nat.le_refl _), List.getElem?_append_left h1] at h2
      simp at h2
      exact absurd (List.mem_of_getElem? h2.symm) hP
    · exact h1
    · have h2 : (A ++ s :: B)[A.length]? = (P ++ [s, d])[A.length]? := by rw [h]
      rw [List.getElem?_append_right (Nat.le_refl _), List.getElem?_append_right (Nat.le_of_lt h1)] at h2
      simp at h2
      obtain ⟨k, hk⟩ : ∃ k, A.length - P.length = k + 1 := ⟨A.length - P.length - 1, by omega⟩
      rw [hk] at h2
      cases k with
      | zero => simp at h2; exact absurd h2 hd
      | succ k => simp at h2
  exact (List.append_inj h hl).1
theorem mark_none {α : Type} {s : α} {A B P : List α} (hP : s ∉ P) (h : A ++ s :: B = P) : False := hP (by rw [← h]; simp)

def sideB : List UInt8 := [115, 105, 100, 101]
/-- A word, if it is not empty. -/
def wl (x : ByteArray) : List (List UInt8) := if x = ⟨#[]⟩ then [] else [x.data.toList]
theorem spl_w1 (a : List UInt8) (x : ByteArray) (h : (32 : UInt8) ∉ x.data.toList) : spl 32 (a ++ (w1 x).data.toList) = spl 32 a ++ wl x := by
  unfold w1 wl
  by_cases e : x = ⟨#[]⟩
  · rw [if_pos e, if_pos e]; simp
  · rw [if_neg e, if_neg e, ByteArray.toList_data_append]
    show spl 32 (a ++ 32 :: x.data.toList) = _
    rw [spl_sep, spl_clean 32 _ h]

/-- The text without the side. -/
def bf (f : Ft) : ByteArray := cod f ++ (w1 f.wh ++ (w1 f.lk ++ w1 f.wt))
theorem tx_bf (f : Ft) : cod f ++ txF f = bf f ++ sdW f.sd := by unfold txF bf; simp only [app_assoc]
/-- The words ahead of the side. -/
def hd (f : Ft) : List (List UInt8) := [(cod f).data.toList] ++ wl f.wh ++ wl f.lk ++ wl f.wt

/-- Words that hold no space and are not 'side'. -/
structure Cl (f : Ft) : Prop where
  co : (32 : UInt8) ∉ (cod f).data.toList ∧ (cod f).data.toList ≠ sideB
  wh : (32 : UInt8) ∉ f.wh.data.toList ∧ f.wh.data.toList ≠ sideB
  wt : (32 : UInt8) ∉ f.wt.data.toList ∧ f.wt.data.toList ≠ sideB
  lk : (32 : UInt8) ∉ f.lk.data.toList ∧ f.lk.data.toList ≠ sideB
  sd : (32 : UInt8) ∉ f.sd.data.toList ∧ f.sd.data.toList ≠ sideB
def clB (x : ByteArray) : Bool := !x.data.toList.contains 32 && x.data.toList != sideB
theorem cl_of {ss : List ByteArray} (h : ss.all clB = true) {x : ByteArray} (hx : x ∈ ss) : (32 : UInt8) ∉ x.data.toList ∧ x.data.toList ≠ sideB := by
  have := List.all_eq_true.1 h x hx
  unfold clB at this
  simp only [Bool.and_eq_true, Bool.not_eq_true', bne_iff_ne, ne_eq] at this
  exact ⟨fun m => (by rw [List.contains_iff_mem.2 m] at this; cases this.1), this.2⟩
theorem cl_nil : (32 : UInt8) ∉ (⟨#[]⟩ : ByteArray).data.toList ∧ (⟨#[]⟩ : ByteArray).data.toList ≠ sideB := ⟨by simp, by simp [sideB]⟩
theorem OkF.cl {f : Ft} (h : OkF f) : Cl f := by
  obtain ⟨h0, h1, h2, h3, h4, h5⟩ := h
  have hf : ∀ i, i < 5 → (famW i).all clB = true := by decide
  have hs : ∀ i, i < 5 → (famS i).all clB = true := by decide
  refine ⟨?_, ?_, cl_of (hf _ h0) (fam_mem h0), ?_, ?_⟩
  · have hd : ∀ u, u < 100 → clB (dec u) = true := by decide +kernel
    exact cl_of (ss := [cod f]) (by simp only [List.all_cons, List.all_nil, Bool.and_true]; exact hd _ (by omega)) (by simp)
  · rcases h2 with e | e
    · rw [e]; exact cl_nil
    · exact cl_of (by decide) e
  · rcases h3 with e | e
    · rw [e]; exact cl_nil
    · exact cl_of (by decide) e
  · rcases h5 with e | e
    · rw [e]; exact cl_nil
    · exact cl_of (hs _ h0) e
theorem spl_bf {f : Ft} (h : Cl f) : spl 32 (bf f).data.toList = hd f := by
  unfold bf hd
  rw [ByteArray.toList_data_append, ByteArray.toList_data_append, ByteArray.toList_data_append, ← List.append_assoc, ← List.append_assoc, spl_w1 _ _ h.wt.1, spl_w1 _ _ h.lk.1, spl_w1 _ _ h.wh.1, spl_clean 32 _ h.co.1]
theorem side_hd {f : Ft} (h : Cl f) : sideB ∉ hd f := by
  have hw : ∀ x : ByteArray, x.data.toList ≠ sideB → sideB ∉ wl x := fun x hx => by
    unfold wl; split
    · simp
    · simp only [List.mem_cons, List.not_mem_nil, or_false]; exact fun e => hx e.symm
  unfold hd
  simp only [List.mem_append, List.mem_cons, List.not_mem_nil, or_false, not_or]
  exact ⟨⟨⟨fun e => h.co.2 e.symm, hw _ h.wh.2⟩, hw _ h.lk.2⟩, hw _ h.wt.2⟩

end Go.Proofs.YtpfjdlaaakkimaaDoor.PfM
