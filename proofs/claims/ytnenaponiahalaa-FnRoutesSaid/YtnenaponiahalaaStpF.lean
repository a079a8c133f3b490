/- The two step functions that are handed over: contracts. -/
import Derived.Test.YtnenaponiahalaaStepT
import Derived.Test.YtnenaponiahalaaDstM
namespace Go.Proofs.Ytnenaponiahalaa.StpF
open Go.RowKit Lb IntS MapS MapV High Cells StepT
set_option linter.unusedSimpArgs false
set_option linter.unusedVariables false

/-- A map in its block, with its rows. -/
structure Bm (w : World) (gb : Nat) (m : Mp) (a b : Option Addr) (ca cb : Nat) : Prop where
  box : Blk w gb 26 #[.int .i64 m.W, .int .i64 m.H, .slice a m.R.length ca, .slice b m.C.length cb]
  r : IRow w a m.R
  c : IRow w b m.C
theorem Bm.later {w w' : World} {gb : Nat} {m : Mp} {a b : Option Addr} {ca cb : Nat} (h : Bm w gb m a b ca cb) (hb : Below w.heap.size w w') : Bm w' gb m a b ca cb := ⟨h.box.later hb, RowAt.below h.r hb, RowAt.below h.c hb⟩

theorem from_any (m : Mp) (ww hh : Nat) (g : GoodM m ww hh) (a b : Option Addr) (ca cb gb : Nat) (c d : Nat) (w : World) (H : Bm w gb m a b ca cb) (h1 : c < ww * hh) (h2 : d < ww * hh) :
    Calls Try.prog 134 #[.int .i64 c, .int .i64 d, .pointer (some ⟨gb, 0, none⟩)] w fun e w' => e = .returned (.int .i64 (stp m c d)) ∧ Below w.heap.size w w' := by
  have HH := Lib.hid H
  obtain ⟨p0, p1, p2, p3, -⟩ := H.box.four
  clear H
  go_enter Try.func134, Try.ntmps134
  go_wp2_with fail
  refine (impl_step m ww hh g a b ca cb c d w HH.out.r HH.out.c h1 h2).mono ?_
  rintro e w' ⟨rfl, hb⟩
  go_wp2
  go_ret
  exact ⟨rfl, hb⟩
theorem to_any (m : Mp) (ww hh : Nat) (g : GoodM m ww hh) (a b : Option Addr) (ca cb gb : Nat) (c d : Nat) (w : World) (H : Bm w gb m a b ca cb) (h1 : c < ww * hh) (h2 : d < ww * hh) :
    Calls Try.prog 129 #[.int .i64 c, .int .i64 d, .pointer (some ⟨gb, 0, none⟩)] w fun e w' => e = .returned (.int .i64 (stp m d c)) ∧ Below w.heap.size w w' := by
  have HH := Lib.hid H
  obtain ⟨p0, p1, p2, p3, -⟩ := H.box.four
  clear H
  go_enter Try.func129, Try.ntmps129
  go_wp2_with fail
  refine (impl_step m ww hh g a b ca cb d c w HH.out.r HH.out.c h2 h1).mono ?_
  rintro e w' ⟨rfl, hb⟩
  go_wp2
  go_ret
  exact ⟨rfl, hb⟩

end Go.Proofs.Ytnenaponiahalaa.StpF
