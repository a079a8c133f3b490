/- 'FnExactFamilyOf', 'FnExactSidesFor' answer as their models, at every argument: the walks of the laws. -/
import Derived.Test.YtpfjdlaaakkimaaSpO
import Derived.Test.YtpfjdlaaakkimaaMark
namespace Go.Proofs.Ytpfjdlaaakkimaa.FndL
open Go.RowKit Lb Bk SpF Word Mrk
open StrS (eq_any)
set_option linter.unusedSimpArgs false
set_option linter.unusedVariables false

/-- What a look-up tells: a name and a Bool. -/
theorem specFam_any (x : ByteArray) (w : World) : Calls Try.prog 13 #[.string x] w fun e w' => e = .returned (.tuple #[.string (famN (fam x)), .bool (decide (fam x < 5))]) ∧ Below w.heap.size w w' := by
  by_cases hf : fam x < 5
  · obtain ⟨k, hk, hk5⟩ : ∃ k, fam x = k ∧ k < 5 := ⟨_, rfl, hf⟩
    have hz : famZ x = k := by rw [famZ_yes hf, hk]
    have HD := Lib.hid (decide_eq_true hf)
    have hneg : decide ((k : Int) < 0) = false := by simp
    have HH := Lib.hid hk
    clear hf hk
    go_enter Try.func13, Try.ntmps13
    go_wp2_with fail
    refine (fam_any x _).mono ?_
    rw [hz]
    rintro e w1 ⟨rfl, hb1⟩
    have HB1 := Lib.hid (hb1.alloc hb1.size (.cells #[.string (famN 0), .string (famN 1), .string (famN 2), .string (famN 3), .string (famN 4)] 9))
    have HK1 := Lib.hid (Blk.new w1 9 #[.string (famN 0), .string (famN 1), .string (famN 2), .string (famN 3), .string (famN 4)])
    clear hb1
    go_wp2_with fail
    refine (fam_any x _).mono ?_
    rw [hz]
    rintro e w2 ⟨rfl, hb2⟩
    have HB2 := Lib.hid (HB1.out.trans (hb2.mono HB1.out.size))
    have HK2 := Lib.hid (HK1.out.later hb2)
    clear hb2
    clear hz
    obtain rfl | rfl | rfl | rfl | rfl : k = 0 ∨ k = 1 ∨ k = 2 ∨ k = 3 ∨ k = 4 := by omega
    · have c := Blk.cell HK2.out 0 (v := .string (famN 0)) rfl
      go_wp2
      go_ret2
      exact ⟨by rw [HD.out, HH.out]; rfl, HB2.out⟩
    · have c := Blk.cell HK2.out 1 (v := .string (famN 1)) rfl
      go_wp2
      go_ret2
      exact ⟨by rw [HD.out, HH.out]; rfl, HB2.out⟩
    · have c := Blk.cell HK2.out 2 (v := .string (famN 2)) rfl
      go_wp2
      go_ret2
      exact ⟨by rw [HD.out, HH.out]; rfl, HB2.out⟩
    · have c := Blk.cell HK2.out 3 (v := .string (famN 3)) rfl
      go_wp2
      go_ret2
      exact ⟨by rw [HD.out, HH.out]; rfl, HB2.out⟩
    · have c := Blk.cell HK2.out 4 (v := .string (famN 4)) rfl
      go_wp2
      go_ret2
      exact ⟨by rw [HD.out, HH.out]; rfl, HB2.out⟩
  · have hz := famZ_no hf
    have hd := decide_eq_false hf
    have HH := Lib.hid (show fam x = 5 from by have := fam_le x; omega)
    clear hf
    go_enter Try.func13, Try.ntmps13
    go_wp2_with fail
    refine (fam_any x _).mono ?_
    rw [hz]
    rintro e w1 ⟨rfl, hb1⟩
    go_wp2
    go_ret2
    exact ⟨by rw [HH.out]; rfl, hb1⟩

theorem specSides_any (x : ByteArray) (w : World) : Calls Try.prog 15 #[.string x] w fun e w' => ∃ sd, e = .returned (.tuple #[sd, .bool (decide (fam x < 5))]) ∧ w'.ownsRow w.heap.size 9 1 sd (famS (fam x)).length ((famS (fam x)).map Value.string) ∧ Below w.heap.size w w' := by
  by_cases hf : fam x < 5
  · have hz := famZ_yes hf
    have hd := decide_eq_true hf
    have hneg : decide ((fam x : Int) < 0) = false := by simp
    have HF := Lib.hid hf
    clear hf
    go_enter Try.func15, Try.ntmps15
    go_wp2_with fail
    refine (fam_any x _).mono ?_
    rw [hz]
    rintro e w1 ⟨rfl, hb1⟩
    have HB1 := Lib.hid hb1
    clear hb1
    go_wp2_with fail
    refine (fam_any x _).mono ?_
    rw [hz]
    rintro e w2 ⟨rfl, hb2⟩
    have HB2 := Lib.hid (HB1.out.trans (hb2.mono HB1.out.size))
    clear hb2 hz
    go_wp2_with fail
    refine (sides_any (fam x) HF.out _).mono ?_
    rintro e w3 ⟨v, rfl, ho, hb3⟩
    have HB3 := Lib.hid (HB2.out.trans (hb3.mono HB2.out.size))
    have HO := Lib.hid (show w3.ownsRow w.heap.size 9 1 v (famS (fam x)).length ((famS (fam x)).map Value.string) from by
      refine ⟨ho.1, ?_⟩
      rcases ho.2 with h | ⟨g, cap, cur, hv, hg, r⟩
      · exact .inl h
      · exact .inr ⟨g, cap, cur, hv, Nat.le_trans HB2.out.size hg, r⟩)
    clear hb3 ho
    go_wp2
    go_ret2
    exact ⟨_, by rw [hd]; rfl, HO.out, HB3.out⟩
  · have hz := famZ_no hf
    have hd := decide_eq_false hf
    have HH := Lib.hid (show fam x = 5 from by have := fam_le x; omega)
    clear hf
    go_enter Try.func15, Try.ntmps15
    go_wp2_with fail
    refine (fam_any x _).mono ?_
    rw [hz]
    rintro e w1 ⟨rfl, hb1⟩
    have HB1 := Lib.hid (hb1.alloc hb1.size (.cells #[] 9))
    have hsz := Lib.hid hb1.size
    have HK1 := Lib.hid (Blk.new w1 9 #[])
    clear hb1
    go_wp2
    go_ret2
    refine ⟨.slice (some ⟨w1.heap.size, 0, none⟩) 0 0, by rw [hd]; rfl, ?_, HB1.out⟩
    rw [HH.out]
    exact ⟨rfl, .inr ⟨w1.heap.size, 0, _, rfl, hsz.out, HK1.out, Nat.le_refl _, by decide, by simp, rfl⟩⟩

theorem owns_slice {w : World} {base : Nat} {e : TypeId} {v : Value} {ps : List ByteArray} (h : w.ownsRow base e 1 v ps.length (ps.map .string)) :
    ∃ a cap, v = .slice a ps.length cap ∧ StrRow w a ps ∧ ∀ x, a = some x → base ≤ x.block := by
  rcases h.2 with ⟨rfl, h0⟩ | ⟨g, cap, cur, rfl, hb, _⟩
  · exact ⟨none, 0, by rw [h0], .inl h0, fun x e => by cases e⟩
  · refine ⟨some ⟨g, 0, none⟩, cap, rfl, (RowAt.of_owns h).congr fun k hk => ?_, fun x e => by cases e; exact hb⟩
    simp [sAt, hk]

/-- A row stands in whatever grows beside it. -/
theorem RowAt.beside {w w' : World} {a : Option Addr} {n : Nat} {f : Nat → Value} (h : RowAt w a n f) {r : Option Nat} (hb : w.grownBy w' r) (hr : ∀ x, a = some x → r ≠ some x.block) : RowAt w' a n f := by
  rcases h with h | ⟨b, o, rfl, hc⟩
  · exact .inl h
  · exact RowAt.grown (.inr ⟨b, o, rfl, hc⟩) hb (hr _ rfl)


theorem sides_both (x : ByteArray) : ∃ (ps : List ByteArray) (ok : Bool), ps.length ≤ 7 ∧
    (∀ w, Calls Try.prog 15 #[.string x] w fun e w' => ∃ v, e = .returned (.tuple #[v, .bool ok]) ∧ w'.ownsRow w.heap.size 9 1 v ps.length (ps.map .string) ∧ Below w.heap.size w w') ∧
    (∀ w, Calls Try.prog 16 #[.string x] w fun e w' => ∃ v, e = .returned (.tuple #[v, .bool ok]) ∧ w'.ownsRow w.heap.size 9 1 v ps.length (ps.map .string) ∧ Below w.heap.size w w') :=
  ⟨famS (fam x), decide (fam x < 5), famS_len _, fun w => specSides_any x w, fun w => Fnd.sides_any x w⟩

set_option maxHeartbeats 1000000 in
theorem sides_law (W : World) (x : ByteArray) (hs : x.size ≤ maxLen) :
    Calls Try.prog 5 #[.string x] W fun e w' => e = .returned (.bool true) ∧ Below W.heap.size W w' := by
  unfold maxLen at hs
  by_cases h1 : 1048576 < x.size
  · go_enter Try.func5, Try.ntmps5
    go_wp2
    go_ret
    exact ⟨rfl, Below.refl _ _⟩
  obtain ⟨ps, ok, hpl, hS, hI⟩ := sides_both x
  have HS := Lib.hid hS
  have HI := Lib.hid hI
  clear hS hI
  go_enter Try.func5, Try.ntmps5
  go_wp2_with fail
  refine (HS.out _).mono ?_
  rintro e w1 ⟨v0, rfl, hn1, hb1⟩
  obtain ⟨a0, c0, rfl, hr0, hk0⟩ := owns_slice hn1
  have R0 := Lib.hid hr0
  have K0 := Lib.hid (show ∀ x, a0 = some x → x.block < w1.heap.size from fun z e => by
    subst e
    exact (hn1.lt z.block rfl).2)
  have B1 := Lib.hid hb1
  clear hn1 hr0 hb1 hk0
  go_wp2_with fail
  refine (HI.out _).mono ?_
  rintro e w2 ⟨v1, rfl, hn2, hb2⟩
  obtain ⟨a1, c1, rfl, hr1, hk1⟩ := owns_slice hn2
  have R0' := Lib.hid (RowAt.below R0.out hb2)
  have R1 := Lib.hid hr1
  have N1 := Lib.hid hn2
  have K1 := Lib.hid hk1
  have B2 := Lib.hid (B1.out.trans (hb2.mono B1.out.size))
  have Z := Lib.hid hb2.size
  clear hn2 hr1 hb2 hk1 R0
  have E1 := Lib.hid (eq_any a1 a0 c1 c0 ps ps w2 R1.out R0'.out (by unfold maxLen; omega) (by unfold maxLen; omega))
  go_wp2_with fail
  refine E1.out.mono ?_
  rintro e w2' ⟨rfl, n, rfl⟩
  have MK := Lib.hid (mark_one w1.heap.size a1 c1 ps.length (ps.map .string) (w2.drewN n) N1.out (by omega) Z.out)
  clear E1
  go_wp2_with fail
  refine MK.out.mono ?_
  rintro e w3 ⟨rfl, hm⟩
  have B3 := Lib.hid ((show Below W.heap.size W (w2.drewN n) from ⟨B2.out.os, B2.out.tape, B2.out.output, B2.out.size, B2.out.block⟩).grown hm.2 B2.out.size (fun k e => by
    cases a1 with
    | none => cases e
    | some x => cases e; exact Nat.le_trans B1.out.size (K1.out x rfl)))
  have R3 := Lib.hid (RowAt.beside (show RowAt (w2.drewN n) a0 ps.length _ from R0'.out.heap rfl) hm.2 (fun x ex e => by
    cases a1 with
    | none => cases e
    | some y =>
      have h1 := K0.out x ex
      have h2 := K1.out y rfl
      have h3 : y.block = x.block := by simpa [Value.ownBlock] using e
      omega))
  have M3 := Lib.hid hm.row
  clear hm MK
  have H1 := Lib.hid (held_one a1 c1 ps.length w3 M3.out (by omega))
  go_wp2_with fail
  refine H1.out.mono ?_
  rintro e w4 ⟨rfl, hb4⟩
  have B4 := Lib.hid (B3.out.trans (hb4.mono B3.out.size))
  have R4 := Lib.hid (RowAt.below R3.out hb4)
  have M4 := Lib.hid (RowAt.below M3.out hb4)
  clear hb4 H1 B3 R3 M3
  go_wp2_with fail
  refine (HI.out _).mono ?_
  rintro e w5 ⟨v2, rfl, hn5, hb5⟩
  obtain ⟨a2, c2, rfl, hr2, hk2⟩ := owns_slice hn5
  have B5 := Lib.hid (B4.out.trans (hb5.mono B4.out.size))
  have R5 := Lib.hid (RowAt.below R4.out hb5)
  have M5 := Lib.hid (RowAt.below M4.out hb5)
  have E2 := Lib.hid (eq_any a2 a0 c2 c0 ps ps w5 hr2 R5.out (by unfold maxLen; omega) (by unfold maxLen; omega))
  clear hn5 hr2 hb5 hk2 B4 R4 M4
  go_wp2_with fail
  refine E2.out.mono ?_
  rintro e w5' ⟨rfl, n', rfl⟩
  have H2 := Lib.hid (held_one a1 c1 ps.length (w5.drewN n') (M5.out.heap rfl) (by omega))
  clear E2
  go_wp2_with fail
  refine H2.out.mono ?_
  rintro e w6 ⟨rfl, hb6⟩
  have B6 := Lib.hid ((show Below W.heap.size W (w5.drewN n') from ⟨B5.out.os, B5.out.tape, B5.out.output, B5.out.size, B5.out.block⟩).trans (hb6.mono B5.out.size))
  clear hb6 H2
  go_wp2
  go_ret
  exact ⟨rfl, B6.out⟩


set_option maxHeartbeats 1000000 in
theorem fam_law (W : World) (x : ByteArray) (hs : x.size ≤ maxLen) :
    Calls Try.prog 4 #[.string x] W fun e w' => e = .returned (.bool true) ∧ Below W.heap.size W w' := by
  unfold maxLen at hs
  by_cases h1 : 1048576 < x.size
  · go_enter Try.func4, Try.ntmps4
    go_wp2
    go_ret
    exact ⟨rfl, Below.refl _ _⟩
  go_enter Try.func4, Try.ntmps4
  go_wp2_with fail
  refine (specFam_any x _).mono ?_
  rintro e w1 ⟨rfl, hb1⟩
  have HB1 := Lib.hid hb1
  clear hb1
  go_wp2_with fail
  refine (Fnd.fam_any x _).mono ?_
  rintro e w2 ⟨rfl, hb2⟩
  have HB2 := Lib.hid (HB1.out.trans (hb2.mono HB1.out.size))
  clear hb2
  go_wp2
  go_ret
  exact ⟨rfl, HB2.out⟩

end Go.Proofs.Ytpfjdlaaakkimaa.FndL
