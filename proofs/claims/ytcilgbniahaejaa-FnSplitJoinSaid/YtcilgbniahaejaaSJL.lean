/- Splitting and joining are inverse, and comparing is a strict order: the walk of the law. -/
import Derived.Test.YtcilgbniahaejaaDrwJ
import Derived.Test.YtcilgbniahaejaaSJM
import Derived.Test.YtcilgbniahaejaaSplL
import Derived.Test.YtcilgbniahaejaaStrL
namespace Go.Proofs.Ytcilgbniahaejaa.SJL
open Go.RowKit Lb Cur Drw DrwJ StrS StrI StrL SplS SplL
set_option linter.unusedSimpArgs false
set_option linter.unusedVariables false

theorem owns_cap {w : World} {base : Nat} {e : TypeId} {v : Value} {ps : List ByteArray} (h : w.ownsRow base e 1 v ps.length (ps.map .string)) :
    ∃ a cap, v = .slice a ps.length cap ∧ StrRow w a ps ∧ ps.length ≤ cap := by
  rcases h.2 with ⟨rfl, h0⟩ | ⟨g, cap, cur, rfl, hb, r⟩
  · exact ⟨none, 0, by rw [h0], .inl h0, by omega⟩
  · refine ⟨some ⟨g, 0, none⟩, cap, rfl, (RowAt.of_owns h).congr fun k hk => ?_, ?_⟩
    · simp [sAt, hk]
    · exact r.2.1

/-- A text that is split, and its parts joined. -/
theorem split_back (s sep : ByteArray) (hs : s.size ≤ 4000) (hs' : sep.size ≤ 4000) : ∃ ps ok, ps.length ≤ 4001 ∧
    (∀ w, Calls Try.prog 10 #[.string s, .string sep] w (SplPost w ps ok)) ∧
    (sep.size ≠ 1 → ok = false ∧ ps = []) ∧
    (sep.size = 1 → ok = true ∧ ∀ (a : Option Addr) (cap : Nat) (w : World), StrRow w a ps → ps.length ≤ cap → Calls Try.prog 12 #[.slice a ps.length cap, .string sep] w fun e w' => e = .returned (.tuple #[.string s, .bool true]) ∧ Below w.heap.size w w') := by
  by_cases h : sep.size = 1
  · have hp : 0 < sep.size := by omega
    have hl := parts_length s sep[0]
    have ht := parts_total s sep[0]
    refine ⟨_, _, by omega, fun w => implSplit_ok s sep w hs h hp, fun e => absurd h e, fun _ => ⟨rfl, fun a cap w hr hc => ?_⟩⟩
    have := implJ_ok a cap (parts s sep[0]) sep w hr (by omega) hc (fun k => by have := size_le_total (parts s sep[0]) k; omega) h (parts_ne _ _) hp (fun i hi => SJM.parts_good s sep[0] hs i hi)
    rwa [SJM.parts_back s sep h hp] at this
  · exact ⟨_, _, by simp, fun w => implSplit_no s sep w (by unfold maxLen; omega) (by unfold maxLen; omega) (.inr h), fun _ => ⟨rfl, rfl⟩, fun e => absurd e h⟩

set_option maxHeartbeats 1000000 in
theorem law_any (W : World) (a0 : Option Addr) (n cap : Nat) (xs : Nat → Nat) (hc : Drw.Code W a0 n xs) :
    Calls Try.prog 3 #[.slice a0 n cap] W fun e w' => e = .returned (.bool true) ∧ Below W.heap.size W w' := by
  by_cases hbig : 65536 < n
  · have hc1 := Lib.hid hc
    clear hc
    go_enter Try.func3, Try.ntmps3
    go_wp2
    go_ret
    exact ⟨rfl, Below.refl _ _⟩
  have DS := Lib.hid (drawSplit a0 n cap xs W hc)
  have HC := Lib.hid hc
  clear hc
  go_enter Try.func3, Try.ntmps3
  go_wp2_with (go_at_call 8; go_in)
  refine DS.out.mono ?_
  rintro e w1 ⟨⟨s, sep, rfl, hs, hsep⟩, hb1⟩
  obtain ⟨ps, ok, hpl, hS, hno, hyes⟩ := split_back s sep (by omega) (by omega)
  have HS := Lib.hid hS
  have HN := Lib.hid hno
  have HY := Lib.hid hyes
  have B1 := Lib.hid hb1
  clear hS hno hyes hb1 DS
  go_wp2_with fail
  refine (HS.out _).mono ?_
  rintro e w2 ⟨v0, rfl, hn2, hb2⟩
  obtain ⟨al, cl, rfl, hrl, hcl⟩ := owns_cap hn2
  have RL2 := Lib.hid hrl
  have B2 := Lib.hid (B1.out.trans (hb2.mono B1.out.size))
  clear hn2 hrl hb2 B1
  have DJ := Lib.hid (drawJoin a0 n cap xs w2 (HC.out.below B2.out))
  go_wp2_with fail
  refine DJ.out.mono ?_
  rintro e w3 ⟨v1, ss, mark, rfl, hn3, hsl, htot, hmark, hb3⟩
  obtain ⟨aj, cj, rfl, hrj, hcj⟩ := owns_cap hn3
  have RJ3 := Lib.hid hrj
  have RL3 := Lib.hid (RowAt.below RL2.out hb3)
  have B3 := Lib.hid (B2.out.trans (hb3.mono B2.out.size))
  clear hn3 hrj hb3 DJ RL2
  obtain ⟨r, fine, hspec, himpl⟩ := both ss mark (by omega) (by omega)
  have JS := Lib.hid hspec
  have JI := Lib.hid himpl
  clear hspec himpl
  go_wp2_with fail
  refine (JI.out _ _ _ RJ3.out hcj).mono ?_
  rintro e w4 ⟨rfl, hb4⟩
  have RJ4 := Lib.hid (RowAt.below RJ3.out hb4)
  have RL4 := Lib.hid (RowAt.below RL3.out hb4)
  have B4 := Lib.hid (B3.out.trans (hb4.mono B3.out.size))
  clear hb4 RJ3 RL3
  go_wp2_with fail
  refine (JS.out _ _ _ RJ4.out).mono ?_
  rintro e w5 ⟨rfl, hst5⟩
  have RL5 := Lib.hid (RowAt.heap RL4.out hst5.heap)
  have B5 := Lib.hid (B4.out.trans (hst5.below _))
  clear hst5 RJ4 RL4 B4
  have DL := Lib.hid (drawLess a0 n cap xs w5 (HC.out.below B5.out))
  go_wp2_with fail
  refine DL.out.mono ?_
  rintro e w6 ⟨⟨x, y, rfl, hx, hy⟩, hb6⟩
  have RL6 := Lib.hid (RowAt.below RL5.out hb6)
  have B6 := Lib.hid (B5.out.trans (hb6.mono B5.out.size))
  clear hb6 DL RL5 JS JI HS
  have hless : Op.bytesLess x.toList y.toList = false ∨ (Op.bytesLess x.toList y.toList = true ∧ Op.bytesLess y.toList x.toList = false) := by
    cases h : Op.bytesLess x.toList y.toList with
    | false => exact .inl rfl
    | true => exact .inr ⟨rfl, SJM.less_asymm _ _ h⟩
  by_cases h1 : sep.size = 1
  · obtain ⟨rfl, hj⟩ := HY.out h1
    have HJ := Lib.hid hj
    have h2 : ((sep.size : Int) != 1) = false := by simp [h1]
    clear hj HY HN h1
    rcases hless with hl | ⟨hl, hl'⟩
    all_goals
      go_wp2_with (first | (go_at_call 15; go_in) | (go_at_call 16; go_in))
      refine (HJ.out _ _ _ RL6.out hcl).mono ?_
      rintro e w7 ⟨rfl, hb7⟩
      have B7 := Lib.hid (B6.out.trans (hb7.mono B6.out.size))
      clear hb7 HJ RL6
      go_wp2
      go_ret
      exact ⟨rfl, B7.out⟩
  · obtain ⟨rfl, rfl⟩ := HN.out h1
    have h2 : ((sep.size : Int) != 1) = true := by simp; omega
    clear HY HN
    rcases hless with hl | ⟨hl, hl'⟩
    all_goals
      go_wp2
      go_ret
      exact ⟨rfl, B6.out⟩

end Go.Proofs.Ytcilgbniahaejaa.SJL
