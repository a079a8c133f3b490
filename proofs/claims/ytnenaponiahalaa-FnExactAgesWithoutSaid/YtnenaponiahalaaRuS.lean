/- The laws' own helpers over one Runner: contracts. -/
import Derived.Test.YtnenaponiahalaaRuM
namespace Go.Proofs.Ytnenaponiahalaa.RuK
open Go.RowKit Lb Bk
set_option linter.unusedSimpArgs false
set_option linter.unusedVariables false

/-- One that came in: its texts are not too long. -/
structure Is (f : Ru) : Prop where
  nm : f.nm.size ≤ maxLen
  cl : f.cl.size ≤ maxLen
def sz (f : Ru) : Int := (f.nm.size : Int) + (f.cl.size : Int)
theorem sz_nn (f : Ru) : 0 ≤ sz f := by unfold sz; omega

set_option maxHeartbeats 1000000 in
theorem sz_yes (f : Ru) (left : Int) (w : World) (h1 : left ≤ 1048576) (h : sz f ≤ left) :
    Calls Try.prog 56 #[.agg #[.int .i64 f.id, .string f.nm, .string f.cl, .int .i64 f.bo, .bool f.wo, .int .i64 f.ca], .int .i64 left] w fun e w' => e = .returned (.int .i64 (left - sz f)) ∧ Below w.heap.size w w' := by
  unfold sz at *
  go_enter Try.func56, Try.ntmps56
  go_wp2
  go_ret
  exact ⟨congrArg (fun z => Ending.returned (Value.int .i64 z)) (by omega), (Below.refl _ _).alloc (Nat.le_refl _) _⟩

set_option maxHeartbeats 1000000 in
theorem sz_no (f : Ru) (hf : Is f) (left : Int) (w : World) (h0 : 0 ≤ left) (h1 : left ≤ 1048576) (h : left < sz f) :
    Calls Try.prog 56 #[.agg #[.int .i64 f.id, .string f.nm, .string f.cl, .int .i64 f.bo, .bool f.wo, .int .i64 f.ca], .int .i64 left] w fun e w' => e = .returned (.int .i64 (-1)) ∧ Below w.heap.size w w' := by
  obtain ⟨b1, b2⟩ := hf
  unfold maxLen at b1 b2
  unfold sz at *
  by_cases c0 : left - f.nm.size < 0
  · go_enter Try.func56, Try.ntmps56
    go_wp2
    go_ret
    exact ⟨rfl, (Below.refl _ _).alloc (Nat.le_refl _) _⟩
  have c1 : left - f.nm.size - f.cl.size < 0 := by omega
  go_enter Try.func56, Try.ntmps56
  go_wp2
  go_ret
  exact ⟨rfl, (Below.refl _ _).alloc (Nat.le_refl _) _⟩

set_option maxHeartbeats 2000000 in
theorem to_any (f : Ru) (w : World) :
    Calls Try.prog 58 #[.agg #[.int .i64 f.id, .string f.nm, .string f.cl, .int .i64 f.bo, .bool f.wo, .int .i64 f.ca]] w fun e w' => e = .returned (.agg #[.int .i64 f.id, .string f.nm, .string f.cl, .int .i64 f.bo, .bool f.wo, .int .i64 f.ca]) ∧ Below w.heap.size w w' := by
  go_enter Try.func58, Try.ntmps58
  go_wp2
  refine bodyPost_ret (v := .agg #[.int .i64 f.id, .string f.nm, .string f.cl, .int .i64 f.bo, .bool f.wo, .int .i64 f.ca]) (by simp [results, Try.results58, go_sem]) rfl ?_
  exact ⟨rfl, (((Below.refl _ _).alloc (Nat.le_refl _) _).alloc (by simp) _).alloc (by simp; omega) _⟩

set_option maxHeartbeats 2000000 in
theorem eq_same (f : Ru) (w : World) :
    Calls Try.prog 126 #[.agg #[.int .i64 f.id, .string f.nm, .string f.cl, .int .i64 f.bo, .bool f.wo, .int .i64 f.ca], .agg #[.int .i64 f.id, .string f.nm, .string f.cl, .int .i64 f.bo, .bool f.wo, .int .i64 f.ca]] w fun e w' => e = .returned (.bool true) ∧ Below w.heap.size w w' := by
  go_enter Try.func126, Try.ntmps126
  go_wp2
  go_ret
  exact ⟨rfl, ((Below.refl _ _).alloc (Nat.le_refl _) _).alloc (by simp) _⟩

end Go.Proofs.Ytnenaponiahalaa.RuK
