/- FnSheets: the walk of the law. -/
import Derived.Test.YtpfjdlaaakkimaaDoorShH
import Derived.Test.YtpfjdlaaakkimaaDoorFnd
namespace Go.Proofs.YtpfjdlaaakkimaaDoor.ShW
open Go.RowKit Lb Bk Cur FtD CodB FtL ShV ShH CntI
set_option linter.unusedSimpArgs false
set_option linter.unusedVariables false

theorem nl_take (t : ByteArray) (k : Nat) (h : k < t.size) : nl (t.data.toList.take (k + 1)) = nl (t.data.toList.take k) + (if (t[k].toNat : Int) = 10 then 1 else 0) := by
  have e : t.data.toList[k]? = some t[k] := by
    rw [List.getElem?_eq_getElem (by simpa using h)]; rfl
  unfold nl
  rw [List.take_add_one, e, List.count_append]
  congr 1
  show List.count 10 [t[k]] = _
  rw [List.count_singleton]
  by_cases hb : t[k] = 10
  · rw [hb]; decide
  · have h1 : ¬ ((t[k].toNat : Int) = 10) := by
      intro h2
      apply hb
      apply UInt8.toNat_inj.1
      show t[k].toNat = 10
      omega
    rw [if_neg h1]
    simp [hb]
/-- Every side of a word can be used. -/
theorem side_ok {x s : ByteArray} (h : fam x < 5) (hs : s ∈ famS (fam x)) : okF ⟨50, ⟨#[]⟩, x, ⟨#[]⟩, s⟩ = true :=
  okF_yes ⟨h, ⟨show (31 : Int) ≤ 50 by decide, show (50 : Int) ≤ 99 by decide⟩, .inl rfl, .inl rfl, fun _ => rfl, .inr hs⟩

theorem own_s {w : World} {base : Nat} {v : Value} {ss : List ByteArray} (h : w.ownsRow base 9 1 v ss.length (ss.map Value.string)) : ∃ a cap, v = .slice a ss.length cap ∧ StrRow w a ss := SpO.own_row h
theorem own_z {w : World} {base : Nat} {v : Value} {zs : List Int} (h : w.ownsRow base 3 1 v zs.length (zs.map (Value.int .i64))) : ∃ a cap, v = .slice a zs.length cap ∧ ZRow w a zs := by
  rcases h.2 with ⟨rfl, hn⟩ | ⟨g, cap, cur, rfl, hg, hh, r⟩
  · exact ⟨none, 0, by rw [hn], .inl hn⟩
  · refine ⟨_, cap, rfl, .inr ⟨g, 0, rfl, fun k hk => ?_⟩⟩
    rw [Nat.zero_add]
    refine (h.cellAt k (by omega)).trans ?_
    simp [List.getD, show k < zs.length from hk]

set_option maxRecDepth 100000 in
set_option maxHeartbeats 8000000 in
theorem law_any (W : World) (ht : Fmt.Tab W) (a : Option Addr) (n cap : Nat) (xs : Nat → Nat) (hc : Bytes W a n xs) :
    Calls Tryd.prog 4 #[.slice a n cap] W fun e w' => e = .returned (.bool true) ∧ Below W.heap.size W w' := by
  clear ht
  have HC := Lib.hid (fun w' (hb : Below W.heap.size W w') => hc.below hb)
  have DF := Lib.hid (FsD.sheet_any a n cap xs W hc)
  clear hc
  by_cases hbig : 65536 < n
  · go_enter Tryd.func4, Tryd.ntmps4
    go_wp2
    go_ret
    exact ⟨rfl, Below.refl _ _⟩
  go_enter Tryd.func4, Tryd.ntmps4
  go_wp2_with (go_at_call 8; go_in)
  refine DF.out.mono ?_
  rintro e w1 ⟨⟨a3, k, c3, h, rfl, hk, hrow⟩, hb1⟩
  have B1 := Lib.hid hb1
  have R1 := Lib.hid hrow
  clear hb1 hrow DF
  obtain ⟨t, ok, hok, hts, hsp, hi⟩ := sheet_both k h (by omega)
  have HI := Lib.hid hi
  have HS := Lib.hid hsp
  have HT := Lib.hid hok
  clear hi hsp hok
  go_wp2_with fail
  refine (HI.out a3 c3 _ R1.out).mono ?_
  rintro e w2 ⟨rfl, hb2⟩
  have B2 := Lib.hid (B1.out.trans (hb2.mono B1.out.size))
  have R2 := Lib.hid (R1.out.later hb2)
  clear hb2 B1 R1 HI
  go_wp2_with fail
  refine (HS.out a3 c3 _ R2.out).mono ?_
  rintro e w3 ⟨rfl, hb3⟩
  have B3 := Lib.hid (B2.out.trans (hb3.mono B2.out.size))
  have R3 := Lib.hid (R2.out.later hb3)
  clear hb3 B2 R2 HS
  have h1 : (ok != ok) = false := by simp
  obtain ⟨zs, fine, hf1, hf2, hz, hzl, hsp, hi⟩ := counts_both k h (by omega)
  have HI := Lib.hid hi
  have HS := Lib.hid hsp
  have HF1 := Lib.hid hf1
  have HF2 := Lib.hid hf2
  have HZ := Lib.hid hz
  clear hi hsp hf1 hf2 hz
  go_wp2_with fail
  refine (HI.out a3 c3 _ R3.out).mono ?_
  rintro e w4 ⟨v4, rfl, ho4, hb4⟩
  obtain ⟨a8, c8, rfl, hz4⟩ := own_z ho4
  have B4 := Lib.hid (B3.out.trans (hb4.mono B3.out.size))
  have R4 := Lib.hid (R3.out.later hb4)
  have Z4 := Lib.hid hz4
  clear hb4 B3 R3 HI ho4 hz4
  go_wp2_with fail
  refine (HS.out a3 c3 _ R4.out).mono ?_
  rintro e w5 ⟨v5, rfl, ho5, hb5⟩
  obtain ⟨a10, c10, rfl, hz5⟩ := own_z ho5
  have B5 := Lib.hid (B4.out.trans (hb5.mono B4.out.size))
  have Z5 := Lib.hid (show ZRow w5 a8 zs from Z4.out.below hb5)
  have Y5 := Lib.hid hz5
  clear hb5 B4 R4 HS ho5 hz5 Z4 h1
  obtain ⟨zl, hzl2⟩ : ∃ zl, zs.length = zl := ⟨_, rfl⟩
  rw [hzl2]
  have hzl5 : zl ≤ 5 := by omega
  have HL := Lib.hid hzl2
  clear hzl2 hzl
  go_upto_region 10 with (fail)
  go_cut [81] from 56 to 80 (fun v wx => v = .bool false ∧ Below W.heap.size W wx)
  case first =>
    cases fine with
    | false =>
      cases ok with
      | true =>
        obtain ⟨q1, q2, -⟩ := HT.out rfl
        exact absurd (HF1.out q1 (fun i hi => (q2 i hi).1)) (by decide)
      | false =>
        go_wp2_with fail
        refine (ints_same a8 a10 c8 c10 zl zs _ HL.out Z5.out Y5.out (by omega)).mono ?_
        rintro e w6 ⟨rfl, hb6⟩
        have B6 := Lib.hid (B5.out.trans (hb6.mono B5.out.size))
        clear hb6
        go_wp2
        go_meet
        exact ⟨rfl, B6.out⟩
    | true =>
      have HQ := Lib.hid (HF2.out rfl)
      cases ok with
      | true =>
        go_wp2_with fail
        refine (ints_same a8 a10 c8 c10 zl zs _ HL.out Z5.out Y5.out (by omega)).mono ?_
        rintro e w6 ⟨rfl, hb6⟩
        have B6 := Lib.hid (B5.out.trans (hb6.mono B5.out.size))
        have Z6 := Lib.hid (show ZRow w6 a8 zs from Z5.out.below hb6)
        clear hb6
        go_wp2_with fail
        refine (sum_any a8 c8 zl zs _ HL.out Z6.out hzl5 HZ.out).mono ?_
        rintro e w7 ⟨rfl, rfl⟩
        rw [HQ.out]
        go_wp2
        go_meet
        exact ⟨rfl, B6.out⟩
      | false =>
        go_wp2_with fail
        refine (ints_same a8 a10 c8 c10 zl zs _ HL.out Z5.out Y5.out (by omega)).mono ?_
        rintro e w6 ⟨rfl, hb6⟩
        have B6 := Lib.hid (B5.out.trans (hb6.mono B5.out.size))
        have Z6 := Lib.hid (show ZRow w6 a8 zs from Z5.out.below hb6)
        clear hb6
        go_wp2_with fail
        refine (sum_any a8 c8 zl zs _ HL.out Z6.out hzl5 HZ.out).mono ?_
        rintro e w7 ⟨rfl, rfl⟩
        rw [HQ.out]
        go_wp2
        go_meet
        exact ⟨rfl, B6.out⟩
  case rest =>
  obtain ⟨rfl, hB⟩ := hcut
  have B6 := Lib.hid hB
  clear hB B5 Z5 Y5 HF1 HF2 HZ HL hzl5
  go_wp2
  go_loop [12, 13] (fun s i => ∃ j : Nat, j ≤ t.size ∧ i = .int .i64 j ∧ s = .int .i64 (nl (t.data.toList.take j))) (fun _ i => t.size - (intOf i).toNat)
  case atStart => exact ⟨0, Nat.zero_le _, rfl, rfl⟩
  case round =>
    obtain ⟨j, hj, rfl, rfl⟩ := hrel
    have hle : nl (t.data.toList.take j) ≤ 1400 := by
      unfold nl
      have h1 := List.count_le_length (a := (10 : UInt8)) (l := t.data.toList.take j)
      rw [List.length_take] at h1
      omega
    by_cases hlt : j < t.size
    · have HN := Lib.hid (nl_take t j hlt)
      have hb0 : 0 ≤ (t[j].toNat : Int) ∧ (t[j].toNat : Int) ≤ 255 := by have := t[j].toNat_lt; omega
      obtain ⟨q, hq⟩ : ∃ q, nl (t.data.toList.take j) = q := ⟨_, rfl⟩
      rw [hq] at HN hle ⊢
      clear hq
      by_cases h10 : (t[j].toNat : Int) = 10
      · rw [if_pos h10] at HN
        go_wp2
        go_round
        case rel => exact ⟨j + 1, by omega, by go_num, by rw [HN.out]; go_num⟩
        case measure => simp [intOf]; omega
      · rw [if_neg h10, Nat.add_zero] at HN
        go_wp2
        go_round
        case rel => exact ⟨j + 1, by omega, by go_num, by rw [HN.out]; rfl⟩
        case measure => simp [intOf]; omega
    · obtain rfl : j = t.size := by omega
      have HN := Lib.hid (show ok = true → nl (t.data.toList.take t.size) = k from fun e => by
        obtain ⟨q1, q2, q3⟩ := HT.out e
        rw [List.take_of_length_le (by simp), q3]
        exact nl_sh q2 (by omega))
      obtain ⟨q, hq⟩ : ∃ q, nl (t.data.toList.take t.size) = q := ⟨_, rfl⟩
      rw [hq] at HN hle ⊢
      clear hq HT
      go_upto_region 18 with (fail)
      go_cut [100] from 94 to 99 (fun v wx => v = .bool false ∧ Below W.heap.size W wx)
      case first =>
        cases ok with
        | true =>
          have hqk := HN.out rfl
          subst hqk
          go_wp2
          go_meet
          exact ⟨rfl, B6.out⟩
        | false =>
          go_wp2
          go_meet
          exact ⟨rfl, B6.out⟩
      case rest =>
      obtain ⟨rfl, hB⟩ := hcut
      have B7 := Lib.hid hB
      clear hB B6 HN
      go_wp2_with fail
      refine (word_any a n cap xs _ (HC.out _ B7.out)).mono ?_
      rintro e w8 ⟨⟨x, rfl⟩, hb8⟩
      have B8 := Lib.hid (B7.out.trans (hb8.mono B7.out.size))
      clear hb8 B7
      obtain ⟨ss, hss⟩ : ∃ ss, famS (fam x) = ss := ⟨_, rfl⟩
      have hsl : ss.length ≤ 7 := by rw [← hss]; exact famS_len _
      have HW := Lib.hid (show ∀ j, j < ss.length → okF ⟨50, ⟨#[]⟩, x, ⟨#[]⟩, sAt ss j⟩ = true from fun j hj => by
        rw [← hss] at hj ⊢
        have h5 : fam x < 5 := by
          rcases Nat.lt_or_ge (fam x) 5 with h | h
          · exact h
          · have : fam x = 5 := by have := fam_le x; omega
            rw [this] at hj
            exact absurd hj (Nat.not_lt_zero _)
        exact side_ok h5 (mem_sAt.2 ⟨j, hj, rfl⟩))
      obtain ⟨told, htold⟩ : ∃ b, decide (fam x < 5) = b := ⟨_, rfl⟩
      have C1 := Lib.hid (fun w => Fnd.sides_any x w)
      have C2 := Lib.hid (fun w => FndS.specSides_any x w)
      have C3 := Lib.hid (fun w => Fnd.fam_any x w)
      have C4 := Lib.hid (fun w => FndS.specFam_any x w)
      rw [htold] at C1 C2 C3 C4
      rw [hss] at C1 C2
      obtain ⟨fn, hfn⟩ : ∃ z, famN (fam x) = z := ⟨_, rfl⟩
      rw [hfn] at C3 C4
      clear hss htold hfn
      go_wp2_with fail
      refine (C1.out _).mono ?_
      rintro e w9 ⟨sd, rfl, ho9, hb9⟩
      obtain ⟨a15, c15, rfl, hr9⟩ := own_s ho9
      have B9 := Lib.hid (B8.out.trans (hb9.mono B8.out.size))
      have S9 := Lib.hid hr9
      clear hb9 B8 ho9 hr9 C1
      go_wp2_with fail
      refine (C2.out _).mono ?_
      rintro e w10 ⟨sd, rfl, ho10, hb10⟩
      obtain ⟨a17, c17, rfl, hr10⟩ := own_s ho10
      have B10 := Lib.hid (B9.out.trans (hb10.mono B9.out.size))
      have S10 := Lib.hid (show StrRow w10 a15 ss from RowAt.below S9.out hb10)
      have T10 := Lib.hid hr10
      clear hb10 B9 S9 ho10 hr10 C2
      have h1 : (told != told) = false := by simp
      obtain ⟨sl, hsl2⟩ : ∃ sl, ss.length = sl := ⟨_, rfl⟩
      rw [hsl2] at HW hsl ⊢
      have HL := Lib.hid hsl2
      clear hsl2
      go_wp2_with fail
      refine (texts_same a15 a17 c15 c17 sl ss _ HL.out S10.out T10.out (by omega)).mono ?_
      rintro e w11 ⟨rfl, hb11⟩
      have B11 := Lib.hid (B10.out.trans (hb11.mono B10.out.size))
      have S11 := Lib.hid (show StrRow w11 a15 ss from RowAt.below S10.out hb11)
      clear hb11 B10 S10 T10 h1
      go_wp2_with fail
      go_loopg [19] sl (fun gk i wr => ∃ j : Nat, j ≤ sl ∧ gk = sl - j ∧ i = .int .i64 j ∧ Below W.heap.size W wr ∧ StrRow wr a15 ss)
      case atStart => exact ⟨0, Nat.zero_le _, rfl, rfl, B11.out, S11.out⟩
      case round =>
        obtain ⟨j, hj, hgk, rfl, hB, hS⟩ := hrel
        have B12 := Lib.hid hB
        have S12 := Lib.hid hS
        clear B11 S11 hB hS
        by_cases hlt : j < sl
        · have HO := Lib.hid (HW.out j hlt)
          obtain ⟨s, hs⟩ : ∃ s, sAt ss j = s := ⟨_, rfl⟩
          have hg : ∃ b off, a15 = some ⟨b, off, none⟩ ∧ wr.cell? ⟨b, off + j, none⟩ = some (.string s) := by
            have hl := HL.out
            rcases S12.out with h | ⟨b, off, e, hc⟩
            · omega
            · exact ⟨b, off, e, by rw [← hs]; exact hc j (by omega)⟩
          rw [hs] at HO
          obtain ⟨b1, off1, rfl, g1⟩ := hg
          clear hs
          go_wp2_with fail
          refine (IsF.impl_any ⟨50, ⟨#[]⟩, x, ⟨#[]⟩, s⟩ _).mono ?_
          rintro e w13 ⟨rfl, hb13⟩
          have B13 := Lib.hid (B12.out.trans (hb13.mono B12.out.size))
          have S13 := Lib.hid (show StrRow w13 (some ⟨b1, off1, none⟩) ss from RowAt.below S12.out hb13)
          clear hb13 g1
          rw [HO.out]
          go_wp2
          go_roundg (sl - (j + 1))
          case measure => omega
          case rel => exact ⟨j + 1, by omega, rfl, by go_num, B13.out, S13.out⟩
        · obtain rfl : j = sl := by omega
          go_wp2_with fail
          refine (C3.out _).mono ?_
          rintro e w14 ⟨rfl, hb14⟩
          have B14 := Lib.hid (B12.out.trans (hb14.mono B12.out.size))
          clear hb14 B12
          go_wp2_with fail
          refine (C4.out _).mono ?_
          rintro e w15 ⟨rfl, hb15⟩
          have B15 := Lib.hid (B14.out.trans (hb15.mono B14.out.size))
          clear hb15 B14
          have h2 : (told == told) = true := by simp
          have h3 : (fn.toList == fn.toList) = true := by simp
          go_wp2
          go_ret
          exact ⟨rfl, B15.out⟩

end Go.Proofs.YtpfjdlaaakkimaaDoor.ShW
