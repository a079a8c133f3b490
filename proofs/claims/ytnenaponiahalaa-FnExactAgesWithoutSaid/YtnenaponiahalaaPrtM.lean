/- The parts of a map: sorting what a search has found. -/
import Derived.Test.YtnenaponiahalaaPartM
namespace Go.Proofs.Ytnenaponiahalaa.Lb
set_option linter.unusedVariables false

def srt (p : List Nat) : List Nat := p.mergeSort (fun a b => decide (a ≤ b))
theorem mem_srt {p : List Nat} {x : Nat} : x ∈ srt p ↔ x ∈ p := List.mem_mergeSort
theorem srt_length (p : List Nat) : (srt p).length = p.length := List.length_mergeSort p
theorem srt_sorted {p : List Nat} (h : p.Nodup) : (srt p).Pairwise (· < ·) := by
  have h1 : (srt p).Pairwise (fun a b => decide (a ≤ b) = true) := by
    refine List.pairwise_mergeSort (fun a b c h1 h2 => ?_) (fun a b => ?_) p
    · simp only [decide_eq_true_eq] at *; omega
    · simp only [Bool.or_eq_true, decide_eq_true_eq]; omega
  have h2 : (srt p).Nodup := (List.mergeSort_perm p _).nodup_iff.2 h
  refine (h1.and h2).imp fun {a b} h => ?_
  have h3 : a ≤ b := by simpa using h.1
  have h4 : a ≠ b := h.2
  omega
theorem srt_ints (p : List Nat) : (ints p).mergeSort (fun x y => decide (x ≤ y)) = ints (srt p) := by
  unfold srt ints
  refine (List.map_mergeSort (fun a _ b _ => ?_)).symm
  simp
theorem Bfs.part {m : Mp} {w h k : Nat} (g : GoodM m w h) (ho : Opn m (w * h) k) {p : List Nat} {d : Nat} (b : Bfs m (w * h) k p d) (hd : p.length ≤ d) : IsPart m k (srt p) :=
  ⟨srt_sorted b.nodup, fun x => by rw [mem_srt]; exact b.full g ho hd x⟩

/-- The lists of the parts as numbers. -/
def zsOf (ps : List (List Nat)) (i : Nat) : List Int := ints (ps.getD i [])
theorem zsOf_old {ps : List (List Nat)} {p : List Nat} {i : Nat} (h : i < ps.length) : zsOf (ps ++ [p]) i = zsOf ps i := by
  unfold zsOf
  simp [List.getD, List.getElem?_append_left h]
theorem zsOf_new (ps : List (List Nat)) (p : List Nat) : zsOf (ps ++ [p]) ps.length = ints p := by
  unfold zsOf
  simp [List.getD]
theorem PartsTo.len {m : Mp} {w h k : Nat} (g : GoodM m w h) {ps : List (List Nat)} (hp : PartsTo m (w * h) k ps) (i : Nat) : (zsOf ps i).length ≤ 36 := by
  unfold zsOf
  rw [ints_length]
  by_cases hi : i < ps.length
  · obtain ⟨c, hc, hq⟩ := hp.parts (ps.getD i []) (by simp [hi])
    have := hq.length g hc
    have := g.n36
    omega
  · simp [List.getD, List.getElem?_eq_none (Nat.le_of_not_lt hi)]

end Go.Proofs.Ytnenaponiahalaa.Lb
