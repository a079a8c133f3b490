/- ParseMap: what both texts answer, at every text. -/
import Derived.Test.YtdphliobjafjaaaParsS
namespace Go.Proofs.Ytdphliobjafjaaa.ParsL
open Go.RowKit Lb IntS MapS MapV SpecB ParsC
open ParsI (PPost)
set_option linter.unusedSimpArgs false
set_option linter.unusedVariables false

theorem map_one {m m2 : Mp} {w h w2 h2 : Nat} {s : ByteArray} (t : TextOf m w h s) (t2 : TextOf m2 w2 h2 s) : m = m2 := by
  have e1 := t.first
  have e2 := t2.first
  have z1 := t.size
  have z2 := t2.size
  have w1 := t.g.w1
  have w1' := t2.g.w1
  rw [e1] at e2
  obtain rfl : w = w2 := by omega
  have hm : w * h = w * h2 := by omega
  obtain rfl : h = h2 := Nat.eq_of_mul_eq_mul_left (by omega) hm
  rw [mp_eq t.g, mp_eq t2.g]
  have hR := t.g.R
  have hC := t.g.C
  have hR2 := t2.g.R
  have hC2 := t2.g.C
  have hb : ∀ c, c < w * h → bAt (cellT m c) 0 = bAt (cellT m2 c) 0 ∧ bAt (cellT m c) 1 = bAt (cellT m2 c) 1 := fun c hc => by
    rw [← t.at0 c hc, ← t2.at0 c hc, ← t.at1 c hc, ← t2.at1 c hc]
    exact ⟨rfl, rfl⟩
  have hRR : m.R = m2.R := by
    apply List.ext_getElem (by omega)
    intro k h1 h2
    have hk : k < w * h := by omega
    have e := (t.cellF k hk).2.2.2.1
    have e' := (t2.cellF k hk).2.2.2.1
    rw [(hb k hk).2, e'] at e
    unfold zAt at e
    simpa [List.getD_eq_getElem?_getD, h1, h2] using e.symm
  have hCC : m.C = m2.C := by
    apply List.ext_getElem (by omega)
    intro k h1 h2
    have hk : k < w * h := by omega
    have e := (t.cellF k hk).2.2.1
    have e' := (t2.cellF k hk).2.2.1
    rw [(hb k hk).1, e'] at e
    unfold zAt at e
    simpa [List.getD_eq_getElem?_getD, h1, h2] using e.symm
  rw [hRR, hCC]

theorem both_v (s : ByteArray) (hs : s.size ≤ 1048576) : ∃ (m' : Mp) (ok : Bool), m'.R.length ≤ 36 ∧ m'.C.length ≤ 36 ∧
    (∀ w, Calls Try.prog 27 #[.string s] w (MPost w m' ok)) ∧
    (∀ w, Calls Try.prog 24 #[.string s] w (MPost w m' ok)) := by
  by_cases h : ∃ m ww hh, TextOf m ww hh s
  · obtain ⟨m, ww, hh, T⟩ := h
    have hR := T.g.R
    have hC := T.g.C
    have n36 := T.g.n36
    have key : ∀ w e w', PPost w s e w' → MPost w m true e w' := by
      intro w e w' hp
      rcases hp with ⟨m2, w2, h2, T2, hp⟩ | ⟨hno, _⟩
      · rw [map_one T T2]; exact hp
      · exact absurd T (hno m ww hh)
    exact ⟨m, true, by omega, by omega, fun w => (ParsS.parse_any s w hs).mono (key w), fun w => (ParsI.parse_any s w hs).mono (key w)⟩
  · have key : ∀ w e w', PPost w s e w' → MPost w noMap false e w' := by
      intro w e w' hp
      rcases hp with ⟨m2, w2, h2, T2, hp⟩ | ⟨_, hp⟩
      · exact absurd ⟨m2, w2, h2, T2⟩ h
      · exact hp
    exact ⟨noMap, false, by simp [noMap], by simp [noMap], fun w => (ParsS.parse_any s w hs).mono (key w), fun w => (ParsI.parse_any s w hs).mono (key w)⟩

/-- The same, and what it says of the text. -/
theorem both_f (s : ByteArray) (hs : s.size ≤ 1048576) : ∃ (m' : Mp) (ok : Bool), m'.R.length ≤ 36 ∧ m'.C.length ≤ 36 ∧
    (ok = true → ∃ w h, TextOf m' w h s) ∧ (∀ m w h, TextOf m w h s → ok = true ∧ m' = m) ∧
    (∀ w, Calls Try.prog 27 #[.string s] w (MPost w m' ok)) ∧
    (∀ w, Calls Try.prog 24 #[.string s] w (MPost w m' ok)) := by
  by_cases h : ∃ m ww hh, TextOf m ww hh s
  · obtain ⟨m, ww, hh, T⟩ := h
    have hR := T.g.R
    have hC := T.g.C
    have n36 := T.g.n36
    have key : ∀ w e w', PPost w s e w' → MPost w m true e w' := by
      intro w e w' hp
      rcases hp with ⟨m2, w2, h2, T2, hp⟩ | ⟨hno, _⟩
      · rw [map_one T T2]; exact hp
      · exact absurd T (hno m ww hh)
    exact ⟨m, true, by omega, by omega, fun _ => ⟨ww, hh, T⟩, fun m2 w2 h2 T2 => ⟨rfl, map_one T T2⟩, fun w => (ParsS.parse_any s w hs).mono (key w), fun w => (ParsI.parse_any s w hs).mono (key w)⟩
  · have key : ∀ w e w', PPost w s e w' → MPost w noMap false e w' := by
      intro w e w' hp
      rcases hp with ⟨m2, w2, h2, T2, hp⟩ | ⟨_, hp⟩
      · exact absurd ⟨m2, w2, h2, T2⟩ h
      · exact hp
    exact ⟨noMap, false, by simp [noMap], by simp [noMap], (fun e => by cases e), fun m w2 h2 T2 => absurd ⟨m, w2, h2, T2⟩ h, fun w => (ParsS.parse_any s w hs).mono (key w), fun w => (ParsI.parse_any s w hs).mono (key w)⟩

set_option maxRecDepth 100000 in
/-- MapText: what both texts answer, and what it says. -/
theorem text_f (m : Mp) : ∃ (l : List UInt8) (ok : Bool), TextIs m l ok ∧ l.length ≤ 108 ∧
    (∀ a b ca cb w, m.R.length ≤ maxLen → m.C.length ≤ maxLen → IRow w a m.R → IRow w b m.C → Calls Try.prog 25 #[.agg #[.int .i64 m.W, .int .i64 m.H, .slice a m.R.length ca, .slice b m.C.length cb]] w fun e w' => e = .returned (.tuple #[.string (bs l), .bool ok]) ∧ Below w.heap.size w w') ∧
    (∀ a b ca cb w, m.R.length ≤ maxLen → m.C.length ≤ maxLen → IRow w a m.R → IRow w b m.C → Calls Try.prog 23 #[.agg #[.int .i64 m.W, .int .i64 m.H, .slice a m.R.length ca, .slice b m.C.length cb]] w fun e w' => e = .returned (.tuple #[.string (bs l), .bool ok]) ∧ Below w.heap.size w w') := by
  by_cases h : m.ok
  · obtain ⟨ww, hh, g⟩ := good_of h
    obtain ⟨W, H, R, C⟩ := m
    have e := mp_eq g
    injection e with e1 e2 _ _
    subst e1 e2
    obtain ⟨f, h1, h2, h3⟩ := TextI.first_bad (HasT ⟨ww, hh, R, C⟩) (ww * hh)
    have n36 := g.n36
    refine ⟨if f = ww * hh then txt ⟨ww, hh, R, C⟩ ww (ww * hh) else [], decide (f = ww * hh), textIs_of g f h1 h2 h3, ?_, ?_, ?_⟩
    · split
      · rw [txt_length]; omega
      · exact Nat.zero_le _
    · intro a b ca cb w hR hC hr hc
      refine TextI.spec_yes ⟨ww, hh, R, C⟩ a b ca cb w hR hC hr hc h _ _ ?_
      intro w hr hc
      exact TextS.text_raw ww hh R C a b ca cb w g hr hc f h1 h2 h3
    · intro a b ca cb w hR hC hr hc
      exact TextI.impl_raw ww hh R C a b ca cb w h g hr hc f h1 h2 h3
  · exact ⟨[], false, bad_none h (fun ww hh g => ParsC.ok_of g), Nat.zero_le _, fun a b ca cb w hR hC hr hc => TextI.spec_no m a b ca cb w hR hC hr hc h, fun a b ca cb w hR hC hr hc => TextI.impl_no m a b ca cb w hR hC hr hc h⟩

end Go.Proofs.Ytdphliobjafjaaa.ParsL
