/- A word's family and its sides: the model. -/
import Derived.Test.YtpfjdlaaakkimaaDoorSpO
namespace Go.Proofs.YtpfjdlaaakkimaaDoor.FndS
open Go.RowKit Lb Bk SpF Word
set_option linter.unusedSimpArgs false
set_option linter.unusedVariables false

/-- What a look-up tells: a name and a Bool. -/
theorem specFam_any (x : ByteArray) (w : World) : Calls Tryd.prog 34 #[.string x] w fun e w' => e = .returned (.tuple #[.string (famN (fam x)), .bool (decide (fam x < 5))]) ∧ Below w.heap.size w w' := by
  by_cases hf : fam x < 5
  · obtain ⟨k, hk, hk5⟩ : ∃ k, fam x = k ∧ k < 5 := ⟨_, rfl, hf⟩
    have hz : famZ x = k := by rw [famZ_yes hf, hk]
    have HD := Lib.hid (decide_eq_true hf)
    have hneg : decide ((k : Int) < 0) = false := by simp
    have HH := Lib.hid hk
    clear hf hk
    go_enter Tryd.func34, Tryd.ntmps34
    go_wp2_with fail
    refine (fam_any x _).mono ?_
    rw [hz]
    rintro e w1 ⟨rfl, hb1⟩
    have HB1 := Lib.hid (hb1.alloc hb1.size (.cells #[.string (famN 0), .string (famN 1), .string (famN 2), .string (famN 3), .string (famN 4)] 9))
    have HK1 := Lib.hid (Blk.new w1 9 #[.string (famN 0), .string (famN 1), .string (famN 2), .string (famN 3), .string (famN 4)])
    clear hb1
    go_wp2_with fail
    refine (fam_any x _).mono ?_
    rw [hz]
    rintro e w2 ⟨rfl, hb2⟩
    have HB2 := Lib.hid (HB1.out.trans (hb2.mono HB1.out.size))
    have HK2 := Lib.hid (HK1.out.later hb2)
    clear hb2
    clear hz
    obtain rfl | rfl | rfl | rfl | rfl : k = 0 ∨ k = 1 ∨ k = 2 ∨ k = 3 ∨ k = 4 := by omega
    · have c := Blk.cell HK2.out 0 (v := .string (famN 0)) rfl
      go_wp2
      go_ret2
      exact ⟨by rw [HD.out, HH.out]; rfl, HB2.out⟩
    · have c := Blk.cell HK2.out 1 (v := .string (famN 1)) rfl
      go_wp2
      go_ret2
      exact ⟨by rw [HD.out, HH.out]; rfl, HB2.out⟩
    · have c := Blk.cell HK2.out 2 (v := .string (famN 2)) rfl
      go_wp2
      go_ret2
      exact ⟨by rw [HD.out, HH.out]; rfl, HB2.out⟩
    · have c := Blk.cell HK2.out 3 (v := .string (famN 3)) rfl
      go_wp2
      go_ret2
      exact ⟨by rw [HD.out, HH.out]; rfl, HB2.out⟩
    · have c := Blk.cell HK2.out 4 (v := .string (famN 4)) rfl
      go_wp2
      go_ret2
      exact ⟨by rw [HD.out, HH.out]; rfl, HB2.out⟩
  · have hz := famZ_no hf
    have hd := decide_eq_false hf
    have HH := Lib.hid (show fam x = 5 from by have := fam_le x; omega)
    clear hf
    go_enter Tryd.func34, Tryd.ntmps34
    go_wp2_with fail
    refine (fam_any x _).mono ?_
    rw [hz]
    rintro e w1 ⟨rfl, hb1⟩
    go_wp2
    go_ret2
    exact ⟨by rw [HH.out]; rfl, hb1⟩

theorem specSides_any (x : ByteArray) (w : World) : Calls Tryd.prog 31 #[.string x] w fun e w' => ∃ sd, e = .returned (.tuple #[sd, .bool (decide (fam x < 5))]) ∧ w'.ownsRow w.heap.size 9 1 sd (famS (fam x)).length ((famS (fam x)).map Value.string) ∧ Below w.heap.size w w' := by
  by_cases hf : fam x < 5
  · have hz := famZ_yes hf
    have hd := decide_eq_true hf
    have hneg : decide ((fam x : Int) < 0) = false := by simp
    have HF := Lib.hid hf
    clear hf
    go_enter Tryd.func31, Tryd.ntmps31
    go_wp2_with fail
    refine (fam_any x _).mono ?_
    rw [hz]
    rintro e w1 ⟨rfl, hb1⟩
    have HB1 := Lib.hid hb1
    clear hb1
    go_wp2_with fail
    refine (fam_any x _).mono ?_
    rw [hz]
    rintro e w2 ⟨rfl, hb2⟩
    have HB2 := Lib.hid (HB1.out.trans (hb2.mono HB1.out.size))
    clear hb2 hz
    go_wp2_with fail
    refine (sides_any (fam x) HF.out _).mono ?_
    rintro e w3 ⟨v, rfl, ho, hb3⟩
    have HB3 := Lib.hid (HB2.out.trans (hb3.mono HB2.out.size))
    have HO := Lib.hid (show w3.ownsRow w.heap.size 9 1 v (famS (fam x)).length ((famS (fam x)).map Value.string) from by
      refine ⟨ho.1, ?_⟩
      rcases ho.2 with h | ⟨g, cap, cur, hv, hg, r⟩
      · exact .inl h
      · exact .inr ⟨g, cap, cur, hv, Nat.le_trans HB2.out.size hg, r⟩)
    clear hb3 ho
    go_wp2
    go_ret2
    exact ⟨_, by rw [hd]; rfl, HO.out, HB3.out⟩
  · have hz := famZ_no hf
    have hd := decide_eq_false hf
    have HH := Lib.hid (show fam x = 5 from by have := fam_le x; omega)
    clear hf
    go_enter Tryd.func31, Tryd.ntmps31
    go_wp2_with fail
    refine (fam_any x _).mono ?_
    rw [hz]
    rintro e w1 ⟨rfl, hb1⟩
    have HB1 := Lib.hid (hb1.alloc hb1.size (.cells #[] 9))
    have hsz := Lib.hid hb1.size
    have HK1 := Lib.hid (Blk.new w1 9 #[])
    clear hb1
    go_wp2
    go_ret2
    refine ⟨.slice (some ⟨w1.heap.size, 0, none⟩) 0 0, by rw [hd]; rfl, ?_, HB1.out⟩
    rw [HH.out]
    exact ⟨rfl, .inr ⟨w1.heap.size, 0, _, rfl, hsz.out, HK1.out, Nat.le_refl _, by decide, by simp, rfl⟩⟩

end Go.Proofs.YtpfjdlaaakkimaaDoor.FndS
