/- An empty map: a contract. -/
import Derived.Test.YtdphliobjafjaaaSpecB
import Derived.RegionTactic
namespace Go.Proofs.Ytdphliobjafjaaa.Emp
open Go.RowKit Lb IntS MapS MapV SpecB
set_option linter.unusedSimpArgs false
set_option linter.unusedVariables false

/-- A row of numbers that is a block of its own. -/
def RowB (w : World) (g : Nat) (zs : List Int) : Prop := Blk w g 3 (zs.map (Value.int .i64)).toArray

theorem RowB.own {w : World} {g base : Nat} {zs : List Int} (h : RowB w g zs) (hb : base ≤ g) (hl : zs.length ≤ maxLen) : OwnI w base (.slice (some ⟨g, 0, none⟩) zs.length zs.length) zs := by
  refine ⟨by simp, .inr ⟨g, zs.length, _, rfl, hb, h, Nat.le_refl _, hl, by simp, by rw [List.take_of_length_le (by simp)]⟩⟩
theorem RowB.row {w : World} {g : Nat} {zs : List Int} (h : RowB w g zs) : IRow w (some ⟨g, 0, none⟩) zs := by
  refine .inr ⟨g, 0, rfl, fun k hk => ?_⟩
  unfold RowB Blk at h
  simp [World.cell?, h, hk, zAt]
theorem RowB.set_ {w : World} {g : Nat} {zs : List Int} (h : RowB w g zs) (i : Nat) (z : Int) : RowB (w.setCell ⟨g, i, none⟩ (.int .i64 z)) g (zs.set i z) := by
  have := Blk.set_ h i (.int .i64 z)
  unfold RowB
  rw [List.map_set]
  simpa using this
theorem RowB.cell {w : World} {g : Nat} {zs : List Int} (h : RowB w g zs) (k : Nat) (hk : k < zs.length) : w.cell? ⟨g, k, none⟩ = some (.int .i64 (zAt zs k)) ∧ w.frozen? ⟨g, k, none⟩ = false := by
  unfold RowB Blk at h
  constructor
  · simp [World.cell?, h, hk, zAt]
  · simp [World.frozen?, h]

/-- What is answered. -/
def EPost (w : World) (p q : Int) (n : Nat) (e : Ending) (w' : World) : Prop :=
  ∃ g1 g2, e = .returned (.agg #[.int .i64 p, .int .i64 q, .slice (some ⟨g1, 0, none⟩) n n, .slice (some ⟨g2, 0, none⟩) n n]) ∧ RowB w' g1 (List.replicate n 0) ∧ RowB w' g2 (List.replicate n 0) ∧ w.heap.size ≤ g1 ∧ w.heap.size ≤ g2 ∧ g1 ≠ g2 ∧ Below w.heap.size w w'

theorem made_row (w : World) (n : Nat) : RowB (w.alloc (.cells (madeCells #[.int .i64 0] n) 3)) w.heap.size (List.replicate n 0) := by
  have h := Blk.new w 3 (madeCells #[.int .i64 0] n)
  have e : madeCells #[.int .i64 0] n = ((List.replicate n (0 : Int)).map (Value.int .i64)).toArray := by
    apply Array.toList_inj.1
    rw [toList_madeCells_one]
    simp
  unfold RowB
  rw [← e]; exact h

theorem made_row1 (w : World) (o : Obj) (n : Nat) : RowB ((w.alloc o).alloc (.cells (madeCells #[.int .i64 0] n) 3)) (w.heap.size + 1) (List.replicate n 0) := by
  have h := made_row (w.alloc o) n
  rwa [World.size_alloc] at h
theorem made_row2 (w : World) (o o' : Obj) (n : Nat) : RowB (((w.alloc o).alloc o').alloc (.cells (madeCells #[.int .i64 0] n) 3)) (w.heap.size + 1 + 1) (List.replicate n 0) := by
  have h := made_row ((w.alloc o).alloc o') n
  rwa [World.size_alloc, World.size_alloc] at h
theorem RowB.alloc {w : World} {g : Nat} {zs : List Int} (h : RowB w g zs) (o : Obj) : RowB (w.alloc o) g zs := Blk.alloc h o
theorem RowB.drew {w : World} {g : Nat} {zs : List Int} (h : RowB w g zs) : RowB w.drew g zs := h
theorem three (w : World) (o o' o'' : Obj) : Below w.heap.size w (((w.alloc o).alloc o').alloc o'').drew := ((((Below.refl _ _).alloc (Nat.le_refl _) _).alloc (by simp) _).alloc (by simp; omega) _).drew

set_option maxHeartbeats 1000000 in
theorem emp_any (p q n : Nat) (w : World) (hn : p * q = n) (h36 : n ≤ 36) (hp : p ≤ 6) (hq : q ≤ 6) :
    Calls Try.prog 56 #[.int .i64 p, .int .i64 q] w (EPost w p q n) := by
  obtain ⟨t0, hi, hz0, hz1, hz2⟩ := info_parts iInfo
  have hmul : (p : Int) * (q : Int) = (n : Int) := by rw [← Int.natCast_mul, hn]
  have hm2 : 0 ≤ (p : Int) * (q : Int) := by omega
  have hm3 : (p : Int) * (q : Int) ≤ 36 := by omega
  have hmk : ∀ W : World, (Instr.makeSlice 24 (.int .i64 (n : Int)) (.int .i64 (n : Int))).run Try.prog W = .ok (.slice (some ⟨W.heap.size, 0, none⟩) n n) (W.alloc (.cells (madeCells #[.int .i64 0] n) 3)) := fun W => by
    have h := run_make (P := Try.prog) W 24 3 t0 (.int .i64 0) Try.underlying24 hi hz0 .i64 .i64 n n (by omega) (Int.le_refl _) (by rw [hz2]; omega) (by omega)
    simp only [Int.toNat_natCast, hz1, Nat.mul_one] at h
    exact h
  clear hn hi hz0 hz1 hz2
  go_enter Try.func56, Try.ntmps56
  go_wp2
  go_region
  · go_wp2
    refine bodyPost_ret (v := .agg #[.int .i64 p, .int .i64 q, .slice (some ⟨w.heap.size + 1, 0, none⟩) n n, .slice (some ⟨w.heap.size + 1 + 1, 0, none⟩) n n]) (by simp [results, Try.results56, go_sem]) rfl ⟨_, _, rfl, ?_, ?_, by omega, by omega, by omega, ?_⟩
    · exact ((made_row1 w _ n).alloc _).drew
    · exact (made_row2 w _ _ n).drew
    · exact three w _ _ _
  · go_wp2
    refine bodyPost_ret (v := .agg #[.int .i64 p, .int .i64 q, .slice (some ⟨w.heap.size + 1 + 1, 0, none⟩) n n, .slice (some ⟨w.heap.size + 1, 0, none⟩) n n]) (by simp [results, Try.results56, go_sem]) rfl ⟨_, _, rfl, ?_, ?_, by omega, by omega, by omega, ?_⟩
    · exact (made_row2 w _ _ n).drew
    · exact ((made_row1 w _ n).alloc _).drew
    · exact three w _ _ _

end Go.Proofs.Ytdphliobjafjaaa.Emp
