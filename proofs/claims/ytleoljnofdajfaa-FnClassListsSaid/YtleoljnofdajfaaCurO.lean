/- The drawing of inputs: one of some texts. -/
import Derived.Test.YtleoljnofdajfaaCurP
namespace Go.Proofs.Ytleoljnofdajfaa.Cur
open Go.RowKit Lb
set_option linter.unusedSimpArgs false
set_option linter.unusedVariables false

set_option maxHeartbeats 400000 in
theorem of_any (b m : Nat) (a : Option Addr) (cap : Nat) (ss : List ByteArray) (w : World) (hm : m ≤ 1152921504606846970) (hpos : 0 < ss.length) (hl : ss.length ≤ 65536) (hr : StrRow w a ss) (hne : ∀ x, a = some x → x.block ≠ b) (hok : Ok w b m) :
    Calls Try.prog 60 #[.pointer (some ⟨b, 0, none⟩), .slice a ss.length cap] w fun e w' => (∃ r, r < ss.length ∧ e = .returned (.string (sAt ss r))) ∧ Ok w' b (m + 2) ∧ w.grownBy w' (some b) := by
  have c1 := Lib.hid (pick_any b m ss.length w hm (by omega) (by omega) hok)
  rcases hr with hr | ⟨g, off, rfl, hc⟩
  · omega
  have HC := Lib.hid hc
  have HN := Lib.hid (hne _ rfl)
  clear hok hne hc
  go_enter Try.func60, Try.ntmps60
  go_wp2_with fail
  refine c1.out.mono ?_
  rintro e w1 ⟨⟨r, rfl, _, hr⟩, hok1, hg1⟩
  have hlt : r < ss.length := by omega
  have g1 : w1.cell? ⟨g, off + r, none⟩ = some (.string (sAt ss r)) := hg1.cell (HC.out r hlt) (fun e => HN.out (by simpa using e))
  have HG := Lib.hid hg1
  have HO := Lib.hid hok1
  clear hok1 hg1 hr
  go_wp2_with fail
  go_ret
  exact ⟨⟨r, hlt, rfl⟩, HO.out, HG.out⟩

end Go.Proofs.Ytleoljnofdajfaa.Cur
