/- RunnerText: the model's text. -/
import Derived.Test.YtleoljnofdajfaaGreatDoorRuI
import Derived.Test.YtleoljnofdajfaaGreatDoorNumW
import Derived.Deep.QuietTactic
import Derived.BigQuiet
import Derived.Deep.CutRange
import Derived.Deep.DeepCutAuto
namespace Go.Proofs.YtleoljnofdajfaaGreatDoor.RuT
open Go.RowKit Lb Bk InA Wd RuK RuI Fmt
set_option linter.unusedSimpArgs false
set_option linter.unusedVariables false

/-- The text as far as the year. -/
def tA (r : Ru) : ByteArray := fmtB r.id ++ ⟨#[32]⟩ ++ r.nm ++ ⟨#[32, 111, 102, 32]⟩ ++ r.cl ++ ⟨#[32]⟩ ++ fmtB r.bo
def tB (r : Ru) : ByteArray := tA r ++ (if r.wo then ⟨#[32, 119]⟩ else ⟨#[32, 109]⟩)
def txR (r : Ru) : ByteArray := if r.ca = 0 then tB r else tB r ++ ⟨#[32, 99, 97, 114, 100, 32]⟩ ++ fmtB r.ca
/-- What RunnerText answers. -/
def rtx (r : Ru) : ByteArray := if okR r then txR r else ⟨#[]⟩

theorem ok_parts {r : Ru} (h : okR r = true) : (1 ≤ r.id ∧ r.id ≤ 999) ∧ wordB r.nm = true ∧ wordB r.cl = true ∧ (1920 ≤ r.bo ∧ r.bo ≤ 2020) ∧ (0 ≤ r.ca ∧ r.ca ≤ 9999) := by
  unfold okR at h
  simp at h
  exact ⟨h.1, h.2.1, h.2.2.1, h.2.2.2.1, h.2.2.2.2⟩
theorem word_size {s : ByteArray} (h : wordB s = true) : s.size ≤ 10 := by have := (of_decide_eq_true h : WordP s).1; omega

theorem num_q (n : Int) (h0 : -999999 ≤ n) (h1 : n ≤ 999999) (w : World) (q : Nat) : Calls Tryz.prog 58 #[.int .i64 n] (w.drewN q) fun e w' => e = .returned (.string (fmtB n)) ∧ ∃ j, w' = w.drewN j := by
  refine (num_any n h0 h1 _).mono ?_
  rintro e w' ⟨rfl, hs⟩
  obtain ⟨j, hj⟩ := (show Still w (w.drewN q) from ⟨q, rfl⟩).trans hs
  exact ⟨rfl, j, hj⟩

theorem cut_m (A : ByteArray) : (A ++ ⟨#[32, 109]⟩).extract 0 (A.size + 1) ++ ⟨#[119]⟩ = A ++ ⟨#[32, 119]⟩ := by
  have hs : A.size = A.data.toList.length := Array.length_toList.symm
  apply ByteArray.ext
  apply Array.ext'
  rw [ByteArray.data_append, ByteArray.data_extract, ByteArray.data_append, ByteArray.data_append, hs]
  simp only [Array.toList_append, Array.toList_extract, List.extract_eq_take_drop, List.drop_zero, Nat.sub_zero]
  rw [List.take_append]
  simp
  exact List.take_of_length_le (by rw [Array.length_toList]; exact Nat.le_succ _)

end Go.Proofs.YtleoljnofdajfaaGreatDoor.RuT
