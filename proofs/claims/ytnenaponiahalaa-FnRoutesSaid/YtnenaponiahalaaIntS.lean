/- The laws' own helpers over '[]int': contracts. -/
import Derived.Test.YtnenaponiahalaaProg
import Derived.Test.YtnenaponiahalaaIntE
import Derived.WalkLawsBesides
import Derived.WalkSpells
import Derived.Deep.RegionWith
namespace Go.Proofs.Ytnenaponiahalaa.IntS
open Go.RowKit Lb
set_option linter.unusedSimpArgs false
set_option linter.unusedVariables false

/-- The first 'k' numbers are there, behind them zeros. -/
def upTo (zs : List Int) (k : Nat) : List Value := (zs.take k).map (Value.int .i64) ++ List.replicate (zs.length - k) (.int .i64 0)
theorem upTo_zero (zs : List Int) : upTo zs 0 = List.replicate zs.length (.int .i64 0) := by simp [upTo]
theorem upTo_all (zs : List Int) : upTo zs zs.length = zs.map (Value.int .i64) := by simp [upTo]
theorem upTo_length (zs : List Int) (k : Nat) (h : k ≤ zs.length) : (upTo zs k).length = zs.length := by simp [upTo]; omega
theorem upTo_at (zs : List Int) (k : Nat) (h : k < zs.length) : (upTo zs k)[k]? = some (.int .i64 0) := by
  unfold upTo
  have e : ((zs.take k).map (Value.int .i64)).length = k := by simp; omega
  rw [List.getElem?_append_right (by omega), e, Nat.sub_self, List.getElem?_replicate, if_pos (by omega)]
theorem upTo_set (zs : List Int) (k : Nat) (h : k < zs.length) : (upTo zs k).set k (.int .i64 (zAt zs k)) = upTo zs (k + 1) := by
  unfold upTo
  rw [List.set_append_right _ _ (by simp; omega), zAt_take zs k h]
  have e : zs.length - k = (zs.length - (k + 1)) + 1 := by omega
  rw [e, List.replicate_succ]
  simp [Nat.min_eq_left (Nat.le_of_lt h)]

end Go.Proofs.Ytnenaponiahalaa.IntS
