/- The laws' own helpers over one Class: contracts. -/
import Derived.Test.YtnenaponiahalaaDoorKlM
namespace Go.Proofs.YtnenaponiahalaaDoor.KlK
open Go.RowKit Lb Bk
set_option linter.unusedSimpArgs false
set_option linter.unusedVariables false

/-- One that came in: its texts are not too long. -/
structure Is (f : Kl) : Prop where
  nm : f.nm.size ≤ maxLen
def sz (f : Kl) : Int := (f.nm.size : Int)
theorem sz_nn (f : Kl) : 0 ≤ sz f := by unfold sz; omega

set_option maxHeartbeats 1000000 in
theorem sz_yes (f : Kl) (left : Int) (w : World) (h1 : left ≤ 1048576) (h : sz f ≤ left) :
    Calls Tryd.prog 5 #[.agg #[.int .i64 f.id, .string f.nm, .int .i64 f.lo, .int .i64 f.hi, .bool f.wo, .bool f.me, .int .i64 f.co, .int .i64 f.mo], .int .i64 left] w fun e w' => e = .returned (.int .i64 (left - sz f)) ∧ Below w.heap.size w w' := by
  unfold sz at *
  go_enter Tryd.func5, Tryd.ntmps5
  go_wp2
  go_ret
  exact ⟨congrArg (fun z => Ending.returned (Value.int .i64 z)) (by omega), (Below.refl _ _).alloc (Nat.le_refl _) _⟩

set_option maxHeartbeats 1000000 in
theorem sz_no (f : Kl) (hf : Is f) (left : Int) (w : World) (h0 : 0 ≤ left) (h1 : left ≤ 1048576) (h : left < sz f) :
    Calls Tryd.prog 5 #[.agg #[.int .i64 f.id, .string f.nm, .int .i64 f.lo, .int .i64 f.hi, .bool f.wo, .bool f.me, .int .i64 f.co, .int .i64 f.mo], .int .i64 left] w fun e w' => e = .returned (.int .i64 (-1)) ∧ Below w.heap.size w w' := by
  obtain ⟨b1⟩ := hf
  unfold maxLen at b1
  unfold sz at *
  have c0 : left - f.nm.size < 0 := by omega
  go_enter Tryd.func5, Tryd.ntmps5
  go_wp2
  go_ret
  exact ⟨rfl, (Below.refl _ _).alloc (Nat.le_refl _) _⟩

set_option maxHeartbeats 2000000 in
theorem to_any (f : Kl) (w : World) :
    Calls Tryd.prog 7 #[.agg #[.int .i64 f.id, .string f.nm, .int .i64 f.lo, .int .i64 f.hi, .bool f.wo, .bool f.me, .int .i64 f.co, .int .i64 f.mo]] w fun e w' => e = .returned (.agg #[.int .i64 f.id, .string f.nm, .int .i64 f.lo, .int .i64 f.hi, .bool f.wo, .bool f.me, .int .i64 f.co, .int .i64 f.mo]) ∧ Below w.heap.size w w' := by
  go_enter Tryd.func7, Tryd.ntmps7
  go_wp2
  refine bodyPost_ret (v := .agg #[.int .i64 f.id, .string f.nm, .int .i64 f.lo, .int .i64 f.hi, .bool f.wo, .bool f.me, .int .i64 f.co, .int .i64 f.mo]) (by simp [results, Tryd.results7, go_sem]) rfl ?_
  exact ⟨rfl, (((Below.refl _ _).alloc (Nat.le_refl _) _).alloc (by simp) _).alloc (by simp; omega) _⟩

set_option maxHeartbeats 2000000 in
theorem eq_same (f : Kl) (w : World) :
    Calls Tryd.prog 11 #[.agg #[.int .i64 f.id, .string f.nm, .int .i64 f.lo, .int .i64 f.hi, .bool f.wo, .bool f.me, .int .i64 f.co, .int .i64 f.mo], .agg #[.int .i64 f.id, .string f.nm, .int .i64 f.lo, .int .i64 f.hi, .bool f.wo, .bool f.me, .int .i64 f.co, .int .i64 f.mo]] w fun e w' => e = .returned (.bool true) ∧ Below w.heap.size w w' := by
  go_enter Tryd.func11, Tryd.ntmps11
  go_wp2
  go_ret
  exact ⟨rfl, ((Below.refl _ _).alloc (Nat.le_refl _) _).alloc (by simp) _⟩

end Go.Proofs.YtnenaponiahalaaDoor.KlK
