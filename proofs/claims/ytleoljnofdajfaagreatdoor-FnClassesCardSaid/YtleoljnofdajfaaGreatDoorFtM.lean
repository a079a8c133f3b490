/- Features: plain lemmas. -/
import Derived.Test.YtleoljnofdajfaaGreatDoorJoinM
namespace Go.Proofs.YtleoljnofdajfaaGreatDoor.Lb
open Go.RowKit
set_option linter.unusedVariables false

/-- A feature: its code and its words. -/
structure Ft where
  c : Int
  wh : ByteArray
  wt : ByteArray
  lk : ByteArray
  sd : ByteArray

def famN : Nat → ByteArray
  | 0 => ⟨#[114, 105, 115, 101]⟩
  | 1 => ⟨#[104, 111, 108, 101]⟩
  | 2 => ⟨#[114, 111, 99, 107]⟩
  | 3 => ⟨#[119, 97, 116, 101, 114]⟩
  | 4 => ⟨#[108, 105, 110, 101]⟩
  | _ => ⟨#[]⟩
def famW : Nat → List ByteArray
  | 0 => [⟨#[104, 105, 108, 108]⟩, ⟨#[107, 110, 111, 108, 108]⟩, ⟨#[115, 112, 117, 114]⟩]
  | 1 => [⟨#[112, 105, 116]⟩, ⟨#[104, 111, 108, 108, 111, 119]⟩]
  | 2 => [⟨#[98, 111, 117, 108, 100, 101, 114]⟩, ⟨#[99, 108, 105, 102, 102]⟩]
  | 3 => [⟨#[115, 116, 114, 101, 97, 109]⟩, ⟨#[112, 111, 110, 100]⟩]
  | 4 => [⟨#[112, 97, 116, 104]⟩, ⟨#[102, 101, 110, 99, 101]⟩, ⟨#[119, 97, 108, 108]⟩]
  | _ => []
def famS : Nat → List ByteArray
  | 0 => [⟨#[110, 111, 114, 116, 104]⟩, ⟨#[101, 97, 115, 116]⟩, ⟨#[115, 111, 117, 116, 104]⟩, ⟨#[119, 101, 115, 116]⟩, ⟨#[116, 111, 112]⟩, ⟨#[102, 111, 111, 116]⟩]
  | 1 => [⟨#[110, 111, 114, 116, 104]⟩, ⟨#[101, 97, 115, 116]⟩, ⟨#[115, 111, 117, 116, 104]⟩, ⟨#[119, 101, 115, 116]⟩, ⟨#[102, 111, 111, 116]⟩]
  | 2 => [⟨#[110, 111, 114, 116, 104]⟩, ⟨#[101, 97, 115, 116]⟩, ⟨#[115, 111, 117, 116, 104]⟩, ⟨#[119, 101, 115, 116]⟩, ⟨#[116, 111, 112]⟩, ⟨#[102, 111, 111, 116]⟩, ⟨#[98, 101, 116, 119, 101, 101, 110]⟩]
  | 3 => [⟨#[110, 111, 114, 116, 104]⟩, ⟨#[101, 97, 115, 116]⟩, ⟨#[115, 111, 117, 116, 104]⟩, ⟨#[119, 101, 115, 116]⟩]
  | 4 => [⟨#[110, 111, 114, 116, 104]⟩, ⟨#[101, 97, 115, 116]⟩, ⟨#[115, 111, 117, 116, 104]⟩, ⟨#[119, 101, 115, 116]⟩]
  | _ => []
def dirs : List ByteArray := [⟨#[110, 111, 114, 116, 104]⟩, ⟨#[101, 97, 115, 116]⟩, ⟨#[115, 111, 117, 116, 104]⟩, ⟨#[119, 101, 115, 116]⟩]
def whichs : List ByteArray := [⟨#[110, 111, 114, 116, 104]⟩, ⟨#[101, 97, 115, 116]⟩, ⟨#[115, 111, 117, 116, 104]⟩, ⟨#[119, 101, 115, 116]⟩, ⟨#[117, 112, 112, 101, 114]⟩, ⟨#[108, 111, 119, 101, 114]⟩, ⟨#[109, 105, 100, 100, 108, 101]⟩]
def looks : List ByteArray := [⟨#[108, 111, 119]⟩, ⟨#[104, 105, 103, 104]⟩, ⟨#[119, 101, 116]⟩, ⟨#[111, 118, 101, 114, 103, 114, 111, 119, 110]⟩]
def between : ByteArray := ⟨#[98, 101, 116, 119, 101, 101, 110]⟩

instance memDec (x : ByteArray) : (ss : List ByteArray) → Decidable (x ∈ ss)
  | [] => isFalse (by simp)
  | y :: r => if h : x = y then isTrue (by rw [h]; exact List.mem_cons_self) else match memDec x r with
    | isTrue h' => isTrue (List.mem_cons_of_mem _ h')
    | isFalse h' => isFalse (fun m => by rcases List.mem_cons.1 m with e | e; exact h e; exact h' e)

/-- Where a word stands first in a list, or -1. -/
def idxN (ss : List ByteArray) (x : ByteArray) : Nat := ss.findIdx (fun y => decide (y = x))
def idxZ (ss : List ByteArray) (x : ByteArray) : Int := if x ∈ ss then (idxN ss x : Nat) else -1

theorem mem_sAt {ss : List ByteArray} {x : ByteArray} : x ∈ ss ↔ ∃ j, j < ss.length ∧ sAt ss j = x := by
  constructor
  · intro h
    obtain ⟨j, hj, e⟩ := List.mem_iff_getElem.1 h
    exact ⟨j, hj, by simp [sAt, hj, e]⟩
  · rintro ⟨j, hj, rfl⟩
    simp [sAt, hj]
theorem idxZ_first {ss : List ByteArray} {x : ByteArray} {j : Nat} (hj : j < ss.length) (e : sAt ss j = x) (h : ∀ i, i < j → sAt ss i ≠ x) : idxZ ss x = j := by
  unfold idxZ
  rw [if_pos (mem_sAt.2 ⟨j, hj, e⟩)]
  have : idxN ss x = j := by
    unfold idxN
    rw [List.findIdx_eq hj]
    refine ⟨by simpa [sAt, hj] using e, fun i hi => ?_⟩
    have := h i hi
    simpa [sAt, show i < ss.length by omega] using this
  rw [this]
theorem idxZ_none {ss : List ByteArray} {x : ByteArray} (h : x ∉ ss) : idxZ ss x = -1 := by unfold idxZ; rw [if_neg h]
theorem idxZ_pos {ss : List ByteArray} {x : ByteArray} (h : x ∈ ss) : ∃ j : Nat, idxZ ss x = j ∧ j < ss.length ∧ sAt ss j = x := by
  refine ⟨idxN ss x, if_pos h, ?_, ?_⟩
  · unfold idxN
    exact List.findIdx_lt_length_of_exists ⟨x, h, by simp⟩
  · have hl : ss.findIdx (fun y => decide (y = x)) < ss.length := List.findIdx_lt_length_of_exists ⟨x, h, by simp⟩
    have := List.findIdx_getElem (w := hl)
    unfold idxN
    simpa [sAt, hl] using this

/-- The number of a word's family; 5 if it has none. -/
def fam (x : ByteArray) : Nat := if x ∈ famW 0 then 0 else if x ∈ famW 1 then 1 else if x ∈ famW 2 then 2 else if x ∈ famW 3 then 3 else if x ∈ famW 4 then 4 else 5

theorem fam_le (x : ByteArray) : fam x ≤ 5 := by unfold fam; repeat (first | omega | split)
theorem fam_none {x : ByteArray} (h : ∀ j, j < 5 → x ∉ famW j) : fam x = 5 := by
  unfold fam
  rw [if_neg (h 0 (by omega)), if_neg (h 1 (by omega)), if_neg (h 2 (by omega)), if_neg (h 3 (by omega)), if_neg (h 4 (by omega))]
theorem fam_first {x : ByteArray} {i : Nat} (hi : i < 5) (e : x ∈ famW i) (h : ∀ j, j < i → x ∉ famW j) : fam x = i := by
  obtain rfl | rfl | rfl | rfl | rfl : i = 0 ∨ i = 1 ∨ i = 2 ∨ i = 3 ∨ i = 4 := by omega
  · unfold fam; rw [if_pos e]
  · unfold fam; rw [if_neg (h 0 (by omega)), if_pos e]
  · unfold fam; rw [if_neg (h 0 (by omega)), if_neg (h 1 (by omega)), if_pos e]
  · unfold fam; rw [if_neg (h 0 (by omega)), if_neg (h 1 (by omega)), if_neg (h 2 (by omega)), if_pos e]
  · unfold fam; rw [if_neg (h 0 (by omega)), if_neg (h 1 (by omega)), if_neg (h 2 (by omega)), if_neg (h 3 (by omega)), if_pos e]

def famZ (x : ByteArray) : Int := if fam x < 5 then (fam x : Int) else -1
theorem famZ_yes {x : ByteArray} (h : fam x < 5) : famZ x = fam x := if_pos h
theorem famZ_no {x : ByteArray} (h : ¬ fam x < 5) : famZ x = -1 := if_neg h
theorem idxZ_iff (ss : List ByteArray) (x : ByteArray) : 0 ≤ idxZ ss x ↔ x ∈ ss := by
  constructor
  · intro h
    by_cases e : x ∈ ss
    · exact e
    · rw [idxZ_none e] at h; omega
  · intro h
    obtain ⟨j, e, _⟩ := idxZ_pos h
    omega

/-- Whether a feature is valid. -/
def OkF (f : Ft) : Prop := fam f.wt < 5 ∧ (31 ≤ f.c ∧ f.c ≤ 99) ∧ (f.wh = ⟨#[]⟩ ∨ f.wh ∈ whichs) ∧ (f.lk = ⟨#[]⟩ ∨ f.lk ∈ looks) ∧ (f.sd = between → f.wh = ⟨#[]⟩) ∧ (f.sd = ⟨#[]⟩ ∨ f.sd ∈ famS (fam f.wt))
instance (f : Ft) : Decidable (OkF f) := by unfold OkF; infer_instance
def okF (f : Ft) : Bool := decide (OkF f)
theorem okF_yes {f : Ft} (h : OkF f) : okF f = true := by simpa [okF] using h
theorem okF_no {f : Ft} (h : ¬ OkF f) : okF f = false := by simpa [okF] using h

theorem famW_len (i : Nat) : (famW i).length ≤ 3 := by
  unfold famW; split <;> simp
theorem famS_len (i : Nat) : (famS i).length ≤ 7 := by
  unfold famS; split <;> simp

end Go.Proofs.YtleoljnofdajfaaGreatDoor.Lb
