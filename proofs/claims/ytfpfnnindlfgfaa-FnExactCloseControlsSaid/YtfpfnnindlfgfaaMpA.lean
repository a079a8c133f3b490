/- Rows and blocks beside a map that is marked; a map's box: plain lemmas. -/
import Derived.Test.YtfpfnnindlfgfaaMapE
import Derived.Test.YtfpfnnindlfgfaaIntA
import Derived.Test.YtfpfnnindlfgfaaBk
namespace Go.Proofs.Ytfpfnnindlfgfaa.MpA
open Go.RowKit Lb
open MapS (Chg)
set_option linter.unusedVariables false

theorem f4 {w : World} {g : Nat} {t : TypeId} {x0 x1 x2 x3 : Value} (h : Bk.Blk w g t #[x0, x1, x2, x3]) : w.cell? ⟨g, 0, none⟩ = some x0 ∧ w.cell? ⟨g, 1, none⟩ = some x1 ∧ w.cell? ⟨g, 2, none⟩ = some x2 ∧ w.cell? ⟨g, 3, none⟩ = some x3 := by
  obtain ⟨h0, h1, h2, h3, -⟩ := MapS.Blk.four h
  exact ⟨h0, h1, h2, h3⟩
theorem chg_cell {lo hi : Nat} {w w' : World} (h : Chg lo hi w w') {p : Addr} {v : Value} (hc : w.cell? p = some v) (hp : p.block < lo ∨ hi ≤ p.block) : w'.cell? p = some v := by
  have hb := h.block p.block (World.block_lt_of_cell? w _ hc) hp
  rw [← hc]
  unfold World.cell?
  rw [hb]
theorem chg_owns {lo hi : Nat} {w w' : World} (h : Chg lo hi w w') {base n m cap size : Nat} {e : TypeId} {a : Option Addr} {xs : List Value} (H : w.ownsRow base e size (.slice a m cap) n xs) (hx : ∀ p, a = some p → p.block < lo ∨ hi ≤ p.block) : w'.ownsRow base e size (.slice a m cap) n xs := by
  refine ⟨H.1, ?_⟩
  rcases H.2 with h2 | ⟨g, cap', cur, hv, hg, hh, r⟩
  · exact .inl h2
  · refine .inr ⟨g, cap', cur, hv, hg, ?_, r⟩
    obtain ⟨ha, -, -⟩ := Value.slice.inj hv
    have hlt : g < w.heap.size := (H.lt g (by rw [ha]; rfl)).2
    exact (h.block g hlt (hx _ ha)).trans hh
end Go.Proofs.Ytfpfnnindlfgfaa.MpA
namespace Go.Proofs.Ytfpfnnindlfgfaa.IntK
open Go.RowKit Lb
theorem Row.chg {lo hi : Nat} {w w' : World} (h : MapS.Chg lo hi w w') {a : Option Addr} {rs : List Int} (H : Row w a rs) (hx : ∀ p, a = some p → p.block < lo ∨ hi ≤ p.block) : Row w' a rs := MapS.Chg.row h H hx
theorem Own.chg {lo hi base n cap : Nat} {w w' : World} (h : MapS.Chg lo hi w w') {a : Option Addr} {rs : List Int} (H : Own w base (.slice a n cap) rs) (hx : ∀ p, a = some p → p.block < lo ∨ hi ≤ p.block) : Own w' base (.slice a n cap) rs := MpA.chg_owns h H hx
end Go.Proofs.Ytfpfnnindlfgfaa.IntK
