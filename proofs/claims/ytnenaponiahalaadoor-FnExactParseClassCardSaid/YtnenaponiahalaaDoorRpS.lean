/- A runner read from its text: the model. -/
import Derived.Test.YtnenaponiahalaaDoorRpM
import Derived.Deep.RegionHeld3
namespace Go.Proofs.YtnenaponiahalaaDoor.RpS
open Go.RowKit Lb Bk InA Wd RuK RuI Fmt NumM RuT PfM PfI Rd RpM
open L1S (NewStrs)
set_option linter.unusedSimpArgs false
set_option linter.unusedVariables false

theorem mk_is {s : ByteArray} (hs : s.size ≤ 1048576) : Is (mk (parts s 32)) := by
  have ht := parts_total s 32
  have h1 := sAt_le (parts s 32) 1
  have h3 := sAt_le (parts s 32) 3
  exact ⟨show (sAt (parts s 32) 1).size ≤ maxLen from by unfold maxLen; omega, show (sAt (parts s 32) 3).size ≤ maxLen from by unfold maxLen; omega⟩
theorem ans_no {s : ByteArray} (h : okS s = false) : ansR s = no := by unfold ansR; rw [h]; rfl
theorem ans_yes {s : ByteArray} (h : okS s = true) : ansR s = canR s := by unfold ansR; rw [h]; rfl

theorem blk_zero {w : World} {g : Nat} {t : TypeId} {x : Ru} (h : Blk w g t #[.int .i64 x.id, .string x.nm, .string x.cl, .int .i64 x.bo, .bool x.wo, .int .i64 x.ca]) : Blk ((((((w.setCell ⟨g, 0, none⟩ (.int .i64 0)).setCell ⟨g, 1, none⟩ (.string ⟨#[]⟩)).setCell ⟨g, 2, none⟩ (.string ⟨#[]⟩)).setCell ⟨g, 3, none⟩ (.int .i64 0)).setCell ⟨g, 4, none⟩ (.bool false)).setCell ⟨g, 5, none⟩ (.int .i64 0)) g t #[.int .i64 no.id, .string no.nm, .string no.cl, .int .i64 no.bo, .bool no.wo, .int .i64 no.ca] ∧ ∀ B, B ≤ g → Below B w ((((((w.setCell ⟨g, 0, none⟩ (.int .i64 0)).setCell ⟨g, 1, none⟩ (.string ⟨#[]⟩)).setCell ⟨g, 2, none⟩ (.string ⟨#[]⟩)).setCell ⟨g, 3, none⟩ (.int .i64 0)).setCell ⟨g, 4, none⟩ (.bool false)).setCell ⟨g, 5, none⟩ (.int .i64 0)) := blk_all h no

theorem row_set {wx : World} {g2 B k : Nat} {ws : List ByteArray} (h : StrRow wx (some ⟨g2, 0, none⟩) ws) (hg : g2 < B) (v : Value) : StrRow (wx.setCell ⟨B, k, none⟩ v) (some ⟨g2, 0, none⟩) ws := by
  rcases h with h | ⟨b, off, e, hc⟩
  · exact .inl h
  · cases e
    exact .inr ⟨g2, 0, rfl, fun j hj => ((Below.refl B wx).setCell (p := ⟨B, k, none⟩) (Nat.le_refl _) v).cell (p := ⟨g2, 0 + j, none⟩) hg |>.trans (hc j hj)⟩
end Go.Proofs.YtnenaponiahalaaDoor.RpS
