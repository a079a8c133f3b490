/- The Ids of those that a function value tells: the program's loop. -/
import Derived.Test.YtleoljnofdajfaaGreatDoorRuC
import Derived.Test.YtleoljnofdajfaaGreatDoorIntA
import Derived.Deep.LoopGhost
import Derived.Maps.AppendAt
import Derived.Shelf.Abstract
import Derived.OwnWalk
import Derived.Deep.CutRange
import Derived.Deep.DeepCutAuto
namespace Go.Proofs.YtleoljnofdajfaaGreatDoor.RuD
open Go.RowKit Lb Bk InA Wd RuK RuI RuU RuA RuG RuC
open IntK (Gr)
open IntS (OwnI iInfo)
set_option linter.unusedSimpArgs false
set_option linter.unusedVariables false

def idsL (p : Ru → Bool) (rs : List Ru) : List Int := (rs.filter p).map (·.id)
theorem ids_take {p : Ru → Bool} {rs : List Ru} {k : Nat} (hk : k < rs.length) (h : p (at_ rs k) = true) : idsL p (rs.take (k + 1)) = idsL p (rs.take k) ++ [(at_ rs k).id] := by
  unfold idsL
  rw [List.take_succ_eq_append_getElem hk, List.filter_append, List.map_append, ← at_lt hk]
  simp [h]
theorem ids_skip {p : Ru → Bool} {rs : List Ru} {k : Nat} (hk : k < rs.length) (h : p (at_ rs k) = false) : idsL p (rs.take (k + 1)) = idsL p (rs.take k) := by
  unfold idsL
  rw [List.take_succ_eq_append_getElem hk, List.filter_append, List.map_append, ← at_lt hk]
  simp [h]
theorem ids_len (p : Ru → Bool) (rs : List Ru) : (idsL p rs).length ≤ rs.length := by
  unfold idsL
  rw [List.length_map]
  exact List.length_filter_le _ _

/-- A function value with a text is entered. -/
theorem enter_of {P : Program} {f : FuncId} {fn : Func} {c : Code} (hf : P.funcs[f]? = some fn) (hname : (fn.name == "runtime.NumGoroutine") = false) (hb : fn.body = some c) (args : Array Value) (w : World) : (callFunc f args).run P w = .ok (.enter f args) w := by
  have h1 : fn.name ≠ "runtime.NumGoroutine" := by simpa using hname
  simp [callFunc, hf, h1, hb]

end Go.Proofs.YtleoljnofdajfaaGreatDoor.RuD
