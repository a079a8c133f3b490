/- The library's table stands in every later world. -/
import Derived.Test.YtcilgbniahaejaaDoorFmt
namespace Go.Proofs.YtcilgbniahaejaaDoor.Tb
open Go.RowKit Lb Fmt

theorem gPow : Tryd.prog.globalNamed "internal/strconv.uint64pow10" = some 3 := by kernel_rfl
theorem var_lt {w : World} {n : String} {g : Nat} {cs : Array Value} (hg : Tryd.prog.globalNamed n = some g) (h : w.var? Tryd.prog n = some cs) : g < w.heap.size := by
  unfold World.var? at h
  simp only [hg, Option.bind_some] at h
  by_cases hl : g < w.heap.size
  · exact hl
  · rw [Array.getElem?_eq_none (by omega)] at h
    simp at h
theorem tab_below {w w' : World} (h : Tab w) (hb : Below w.heap.size w w') : Tab w' := var?_below hb gPow (var_lt gPow h) h

end Go.Proofs.YtcilgbniahaejaaDoor.Tb
