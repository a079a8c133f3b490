/- 'JoinStrings' answers as its model, at every list of strings: the walk of the law. -/
import Derived.Test.YtcilgbniahaejaaStrJ
import Derived.Test.YtcilgbniahaejaaStrI
import Derived.Test.YtcilgbniahaejaaStrT
import Derived.Test.YtcilgbniahaejaaStrO
namespace Go.Proofs.Ytcilgbniahaejaa.StrL
open Go.RowKit Lb StrJ StrI StrS StrO
set_option linter.unusedSimpArgs false
set_option linter.unusedVariables false

/-- The program and the model answer alike. -/
theorem both (ss : List ByteArray) (sep : ByteArray) (hl : ss.length + total ss ≤ 1048576) (hs : sep.size ≤ 1048576) :
    ∃ (r : ByteArray) (ok : Bool),
      (∀ (a : Option Addr) (cap : Nat) (w : World), StrRow w a ss → Calls Try.prog 13 #[.slice a ss.length cap, .string sep] w fun e w' => e = .returned (.tuple #[.string r, .bool ok]) ∧ Still w w') ∧
      (∀ (a : Option Addr) (cap : Nat) (w : World), StrRow w a ss → ss.length ≤ cap → Calls Try.prog 12 #[.slice a ss.length cap, .string sep] w fun e w' => e = .returned (.tuple #[.string r, .bool ok]) ∧ Below w.heap.size w w') := by
  have hss : ∀ k, (sAt ss k).size ≤ 1048576 := fun k => by have := size_le_total ss k; omega
  have hm : ss.length ≤ maxLen := by unfold maxLen; omega
  have hm' : sep.size ≤ maxLen := by unfold maxLen; omega
  by_cases h0 : sep.size ≠ 1 ∨ ss = []
  · exact ⟨_, _, fun a cap w hr => specJ_none a cap ss sep w hm hm' h0, fun a cap w hr hc => implJ_none a cap ss sep w hm hm' h0⟩
  · have h1 : sep.size = 1 := by by_cases e : sep.size = 1
                                 · exact e
                                 · exact absurd (.inl e) h0
    have hne : ss ≠ [] := fun e => h0 (.inr e)
    have hp : 0 < sep.size := by omega
    by_cases hg : ∀ i, i < ss.length → ¬ JBad sep[0] ss i
    · exact ⟨_, _, fun a cap w hr => specJ_ok a cap ss sep w hr hm hss h1 hne hp hg, fun a cap w hr hc => implJ_ok a cap ss sep w hr (by omega) hc hss h1 hne hp hg⟩
    · obtain ⟨j, hj, hb, hbad⟩ := first_of hg
      have hbad' : JBad sep[0] ss j := Classical.not_not.1 hbad
      exact ⟨_, _, fun a cap w hr => specJ_bad a cap ss sep w hr hm hss h1 hne hp j hj hb hbad', fun a cap w hr hc => implJ_bad a cap ss sep w hr (by omega) hss h1 hne hp j hj hb hbad'⟩

theorem strRow_of_owns {w : World} {base : Nat} {g n cap : Nat} {ss : List ByteArray} {e : TypeId} (hn : n = ss.length) (h : w.ownsRow base e 1 (.slice (some ⟨g, 0, none⟩) n cap) n (ss.map .string)) : StrRow w (some ⟨g, 0, none⟩) ss := by
  subst hn
  refine (RowAt.of_owns h).congr fun k hk => ?_
  simp [sAt, hk]

set_option maxHeartbeats 1000000 in
theorem law_any (W : World) (a0 : Option Addr) (cap0 : Nat) (ss : List ByteArray) (hi : IsStrs W a0 cap0 ss) (sep : ByteArray) (hsep : sep.size ≤ maxLen) :
    Calls Try.prog 5 #[.slice a0 ss.length cap0, .string sep] W fun e w' => e = .returned (.bool true) ∧ Below W.heap.size W w' := by
  obtain ⟨hr, hc, hm, hs⟩ := hi
  unfold maxLen at hsep
  by_cases hbig : 1048576 < sep.size
  · go_enter Try.func5, Try.ntmps5
    go_wp2
    go_ret
    exact ⟨rfl, Below.refl _ _⟩
  · have hsz := Lib.hid (sz_any a0 cap0 ss 1048576 W hr (by omega) hs (by omega) (by omega))
    go_enter Try.func5, Try.ntmps5
    go_wp2_with fail
    refine hsz.out.mono ?_
    rintro e w1 ⟨⟨r, rfl, hr1⟩, rfl⟩
    rcases hr1 with rfl | ⟨h0, rfl⟩
    · go_wp2
      go_ret
      exact ⟨rfl, Below.refl _ _⟩
    · obtain ⟨r, ok, hspec, himpl⟩ := both ss sep (by omega) (by omega)
      have HS := Lib.hid hspec
      have HI := Lib.hid himpl
      clear hspec himpl hsz
      go_wp2_with fail
      refine (to_any a0 cap0 ss _ hr (by omega)).mono ?_
      rintro e w1 ⟨rfl, hown1, hb1⟩
      have hb1' := Lib.hid hb1
      have hrow1 := Lib.hid (strRow_of_owns rfl hown1)
      clear hown1 hb1
      go_wp2_with fail
      refine (HS.out _ _ _ hrow1.out).mono ?_
      rintro e w2 ⟨rfl, hst⟩
      have hb2 := Lib.hid (hb1'.out.trans (hst.below _))
      clear hrow1 hst hb1'
      go_wp2_with fail
      refine (to_any a0 cap0 ss _ (RowAt.below hr hb2.out) (by omega)).mono ?_
      rintro e w3 ⟨rfl, hown3, hb3⟩
      have hrow3 := Lib.hid (strRow_of_owns rfl hown3)
      have hb3' := Lib.hid (hb2.out.trans (hb3.mono hb2.out.size))
      clear hown3 hb3
      go_wp2_with fail
      refine (HI.out _ _ _ hrow3.out (Nat.le_refl _)).mono ?_
      rintro e w4 ⟨rfl, hb4⟩
      have hrow4 := Lib.hid (RowAt.below hrow3.out hb4)
      have hb4' := Lib.hid (hb3'.out.trans (hb4.mono hb3'.out.size))
      clear hrow3 hb4
      go_wp2_with fail
      refine (to_any a0 cap0 ss _ (RowAt.below hr hb4'.out) (by omega)).mono ?_
      rintro e w5 ⟨rfl, hown5, hb5⟩
      have hrow5 := Lib.hid (strRow_of_owns rfl hown5)
      have hrow5' := Lib.hid (RowAt.below hrow4.out hb5)
      have hb5' := Lib.hid (hb4'.out.trans (hb5.mono hb4'.out.size))
      clear hown5 hb5 hrow4
      go_wp2_with fail
      refine (eq_any _ _ _ _ ss ss _ hrow5'.out hrow5.out (by unfold maxLen; omega) (by unfold maxLen; omega)).mono ?_
      rintro e w6 ⟨rfl, hst6⟩
      have hb6 := Lib.hid (hb5'.out.trans (hst6.below _))
      go_wp2
      go_ret
      exact ⟨rfl, hb6.out⟩

end Go.Proofs.Ytcilgbniahaejaa.StrL
