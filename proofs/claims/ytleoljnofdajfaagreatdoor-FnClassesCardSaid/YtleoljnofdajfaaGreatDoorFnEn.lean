/- Entering a function of any number. -/
import Derived.Test.YtleoljnofdajfaaGreatDoorProg
import Derived.Shelf.Abstract
namespace Go.Proofs.YtleoljnofdajfaaGreatDoor.FnEn
set_option linter.unusedVariables false
theorem enter_of {P : Program} {f : FuncId} {fn : Func} {c : Code} (hf : P.funcs[f]? = some fn) (hname : (fn.name == "runtime.NumGoroutine") = false) (hb : fn.body = some c) (args : Array Value) (w : World) : (callFunc f args).run P w = .ok (.enter f args) w := by
  have h1 : fn.name ≠ "runtime.NumGoroutine" := by simpa using hname
  simp [callFunc, hf, h1, hb]
end Go.Proofs.YtleoljnofdajfaaGreatDoor.FnEn
