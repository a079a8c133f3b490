/- The laws' own helpers over features: contracts. -/
import Derived.Test.YtpfjdlaaakkimaaDoorBk
namespace Go.Proofs.YtpfjdlaaakkimaaDoor.FtS
open Go.RowKit Lb Bk
set_option linter.unusedSimpArgs false
set_option linter.unusedVariables false

/-- A feature that came in: short words, an int. -/
structure IsFt (f : Ft) : Prop where
  wh : f.wh.size ≤ maxLen
  wt : f.wt.size ≤ maxLen
  lk : f.lk.size ≤ maxLen
  sd : f.sd.size ≤ maxLen
def szF (f : Ft) : Int := f.wh.size + f.wt.size + f.lk.size + f.sd.size

set_option maxHeartbeats 1000000 in
theorem sz_yes (f : Ft) (left : Int) (w : World) (h1 : left ≤ 1048576) (h : szF f ≤ left) :
    Calls Tryd.prog 35 #[.agg #[.int .i64 f.c, .string f.wh, .string f.wt, .string f.lk, .string f.sd], .int .i64 left] w fun e w' => e = .returned (.int .i64 (left - szF f)) ∧ Below w.heap.size w w' := by
  unfold szF at *
  go_enter Tryd.func35, Tryd.ntmps35
  go_wp2
  go_ret
  exact ⟨ret_int (by omega), (Below.refl _ _).alloc (Nat.le_refl _) _⟩

set_option maxHeartbeats 1000000 in
theorem sz_no (f : Ft) (hf : IsFt f) (left : Int) (w : World) (h0 : 0 ≤ left) (h1 : left ≤ 1048576) (h : left < szF f) :
    Calls Tryd.prog 35 #[.agg #[.int .i64 f.c, .string f.wh, .string f.wt, .string f.lk, .string f.sd], .int .i64 left] w fun e w' => e = .returned (.int .i64 (-1)) ∧ Below w.heap.size w w' := by
  obtain ⟨b1, b2, b3, b4⟩ := hf
  unfold maxLen at b1 b2 b3 b4
  unfold szF at *
  by_cases c1 : left - f.wh.size < 0
  · go_enter Tryd.func35, Tryd.ntmps35
    go_wp2
    go_ret
    exact ⟨rfl, (Below.refl _ _).alloc (Nat.le_refl _) _⟩
  by_cases c2 : left - f.wh.size - f.wt.size < 0
  · go_enter Tryd.func35, Tryd.ntmps35
    go_wp2
    go_ret
    exact ⟨rfl, (Below.refl _ _).alloc (Nat.le_refl _) _⟩
  by_cases c3 : left - f.wh.size - f.wt.size - f.lk.size < 0
  · go_enter Tryd.func35, Tryd.ntmps35
    go_wp2
    go_ret
    exact ⟨rfl, (Below.refl _ _).alloc (Nat.le_refl _) _⟩
  have c4 : left - f.wh.size - f.wt.size - f.lk.size - f.sd.size < 0 := by omega
  go_enter Tryd.func35, Tryd.ntmps35
  go_wp2
  go_ret
  exact ⟨rfl, (Below.refl _ _).alloc (Nat.le_refl _) _⟩

set_option maxHeartbeats 2000000 in
theorem to_any (f : Ft) (w : World) :
    Calls Tryd.prog 36 #[.agg #[.int .i64 f.c, .string f.wh, .string f.wt, .string f.lk, .string f.sd]] w fun e w' => e = .returned (.agg #[.int .i64 f.c, .string f.wh, .string f.wt, .string f.lk, .string f.sd]) ∧ Below w.heap.size w w' := by
  go_enter Tryd.func36, Tryd.ntmps36
  go_wp2
  refine bodyPost_ret (v := .agg #[.int .i64 f.c, .string f.wh, .string f.wt, .string f.lk, .string f.sd]) (by simp [results, Tryd.results36, go_sem]) rfl ?_
  exact ⟨rfl, (((Below.refl _ _).alloc (Nat.le_refl _) _).alloc (by simp) _).alloc (by simp; omega) _⟩

set_option maxHeartbeats 2000000 in
theorem eq_same (f : Ft) (w : World) :
    Calls Tryd.prog 37 #[.agg #[.int .i64 f.c, .string f.wh, .string f.wt, .string f.lk, .string f.sd], .agg #[.int .i64 f.c, .string f.wh, .string f.wt, .string f.lk, .string f.sd]] w fun e w' => e = .returned (.bool true) ∧ Below w.heap.size w w' := by
  go_enter Tryd.func37, Tryd.ntmps37
  go_wp2
  go_ret
  exact ⟨rfl, ((Below.refl _ _).alloc (Nat.le_refl _) _).alloc (by simp) _⟩

end Go.Proofs.YtpfjdlaaakkimaaDoor.FtS
