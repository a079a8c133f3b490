/- The text of a map: the model. -/
import Derived.Test.YtdphliobjafjaaaTextM
import Derived.Test.YtdphliobjafjaaaSpecB
namespace Go.Proofs.Ytdphliobjafjaaa.TextS
open Go.RowKit Lb IntS MapS MapV SpecB
set_option linter.unusedSimpArgs false
set_option linter.unusedVariables false

theorem dgs (z : Int) (h0 : 0 ≤ z) (h9 : z ≤ 9) : (⟨#[48, 49, 50, 51, 52, 53, 54, 55, 56, 57]⟩ : ByteArray).extract z.toNat (z + 1).toNat = bs [dg z] := by
  obtain rfl | rfl | rfl | rfl | rfl | rfl | rfl | rfl | rfl | rfl : z = 0 ∨ z = 1 ∨ z = 2 ∨ z = 3 ∨ z = 4 ∨ z = 5 ∨ z = 6 ∨ z = 7 ∨ z = 8 ∨ z = 9 := by omega
  all_goals decide

theorem num_any (z : Int) (w : World) (h0 : 0 ≤ z) (h9 : z ≤ 9) : Calls Try.prog 88 #[.int .i64 z] w fun e w' => e = .returned (.string (bs [dg z])) ∧ w' = w := by
  have HD := Lib.hid (dgs z h0 h9)
  obtain ⟨n, rfl⟩ : ∃ n : Nat, z = n := ⟨z.toNat, by omega⟩
  go_enter Try.func88, Try.ntmps88
  go_wp2
  go_ret
  refine ⟨?_, rfl⟩
  rw [← HD.out]
  simp
theorem num_quiet (z : Int) (w : World) (n : Nat) (h0 : 0 ≤ z) (h9 : z ≤ 9) : Calls Try.prog 88 #[.int .i64 z] (w.drewN n) fun e w'' => e = .returned (.string (bs [dg z])) ∧ ∃ j, w'' = w.drewN j :=
  (num_any z _ h0 h9).mono fun e w' ⟨he, hw⟩ => ⟨he, n, hw⟩
theorem num_quiet2 (z : Int) (w : World) (k n : Nat) (h0 : 0 ≤ z) (h9 : z ≤ 9) : Calls Try.prog 88 #[.int .i64 z] (w.drewN (k + n)) fun e w'' => e = .returned (.string (bs [dg z])) ∧ ∃ j, w'' = w.drewN (k + j) :=
  (num_any z _ h0 h9).mono fun e w' ⟨he, hw⟩ => ⟨he, n, hw⟩

/-- What is answered: the text and whether there is one. -/
def TPost (l : List UInt8) (ok : Bool) (e : Ending) : Prop := e = .returned (.tuple #[.string (bs l), .bool ok])

set_option maxRecDepth 100000 in
set_option maxHeartbeats 4000000 in
theorem text_raw (ww hh : Nat) (R C : List Int) (a b : Option Addr) (ca cb : Nat) (w : World) (g : GoodM ⟨ww, hh, R, C⟩ ww hh) (hr : IRow w a R) (hc : IRow w b C) (f : Nat) (hf : f ≤ ww * hh) (hall : ∀ i, i < f → HasT ⟨ww, hh, R, C⟩ i) (hend : f = ww * hh ∨ ¬ HasT ⟨ww, hh, R, C⟩ f) :
    Calls Try.prog 64 #[.agg #[.int .i64 ww, .int .i64 hh, .slice a R.length ca, .slice b C.length cb]] w fun e w' => TPost (if f = ww * hh then txt ⟨ww, hh, R, C⟩ ww (ww * hh) else []) (decide (f = ww * hh)) e ∧ Below w.heap.size w w' := by
  have v1 := g.w1
  have v6 := g.w6
  have h1 := g.h1
  have h6 := g.h6
  have n36 := g.n36
  have hRl := Lib.hid (show R.length = ww * hh from g.R)
  have hCl := Lib.hid (show C.length = ww * hh from g.C)
  have HC := Lib.hid g.cell
  have HA := Lib.hid hall
  have HE := Lib.hid hend
  have HB := Lib.hid ((Below.refl w.heap.size w).alloc (Nat.le_refl _) (.cells #[.int .i64 ww, .int .i64 hh, .slice a R.length ca, .slice b C.length cb] 26))
  have HK := Lib.hid (Blk.new w 26 #[.int .i64 ww, .int .i64 hh, .slice a R.length ca, .slice b C.length cb])
  have hmul : (ww : Int) * (hh : Int) = ((ww * hh : Nat) : Int) := by rw [Int.natCast_mul]
  have hnw : (ww * hh) % ww = 0 := Nat.mul_mod_right ww hh
  have HNW := Lib.hid hnw
  have e0 : (⟨#[]⟩ : ByteArray) = bs [] := rfl
  clear hall hend g hmul hnw
  go_enter Try.func64, Try.ntmps64
  go_wp2
  go_loopg [5, 4] (f + 1) (fun k si ss wr => ∃ c : Nat, c ≤ f ∧ k = f + 1 - c ∧ si = .int .i64 c ∧ ss = .string (bs (mtx ⟨ww, hh, R, C⟩ ww c)) ∧ Still (w.alloc (.cells #[.int .i64 ww, .int .i64 hh, .slice a R.length ca, .slice b C.length cb] 26)) wr)
  case atStart => exact ⟨0, Nat.zero_le _, rfl, rfl, rfl, Still.refl _⟩
  case round =>
    obtain ⟨c, hcf, hkc, rfl, rfl, hst⟩ := hrel
    have hbr : Below w.heap.size w wr := HB.out.trans (Still.below hst _)
    have HBR := Lib.hid hbr
    have HKR := Lib.hid (HK.out.later (Still.below hst _))
    have HST := Lib.hid hst
    clear hst hbr
    obtain ⟨p0, p1, p2, p3, -⟩ := HKR.out.four
    by_cases hlt : c < ww * hh
    · have hcC : c < C.length := by have := hCl.out; omega
      have hcR : c < R.length := by have := hRl.out; omega
      obtain ⟨r1, r2, r3, r4⟩ := HC.out c hlt
      simp only at r1 r2 r3 r4
      rcases RowAt.below hr HBR.out with h0 | ⟨b1, off1, rfl, hr1⟩
      · omega
      rcases RowAt.below hc HBR.out with h0 | ⟨b2, off2, rfl, hc1⟩
      · omega
      have g1 := hr1 c hcR
      have g2 := hc1 c hcC
      clear hr1 hc1
      have hml := mtx_length ⟨ww, hh, R, C⟩ ww c
      have htl := txt_length ⟨ww, hh, R, C⟩ ww c
      obtain ⟨x, hx⟩ : ∃ x, c % ww = x := ⟨_, rfl⟩
      have hxw : x < ww := by rw [← hx]; exact Nat.mod_lt _ v1
      have hxi : (c : Int) % (ww : Int) = (x : Int) := by omega
      go_upto_if 17 with (fail)
      go_cut [4] from 13 to 60 (fun ss wx => ss = .string (bs (txt ⟨ww, hh, R, C⟩ ww c)) ∧ wx = wr)
      case first =>
        by_cases h0 : 0 < x
        · have HX := Lib.hid (mtx_sp ⟨ww, hh, R, C⟩ ww c (by omega))
          have hs1 := bs_size (mtx ⟨ww, hh, R, C⟩ ww c)
          go_wp2_with fail
          go_meet
          exact ⟨by rw [← HX.out]; exact congrArg Value.string (bs_append _ [32]), rfl⟩
        · have HX := Lib.hid (mtx_nl ⟨ww, hh, R, C⟩ ww c (by omega))
          go_wp2_with fail
          go_meet
          exact ⟨by rw [HX.out], rfl⟩
      case rest =>
      obtain ⟨rfl, rfl⟩ := hcut
      have hs0 := bs_size (txt ⟨ww, hh, R, C⟩ ww c)
      by_cases ho : 0 < zAt C c
      · have hcf' : c + 1 ≤ f := by
          by_cases e : c = f
          · subst e
            rcases HE.out with h | h
            · omega
            · exact absurd (.inl ho) h
          · omega
        have HCT := Lib.hid (show cellT ⟨ww, hh, R, C⟩ c = [dg (zAt C c), dg (zAt R c)] from by unfold cellT; rw [if_pos ho])
        have hs1 := bs_size [dg (zAt C c)]
        have hs2 := bs_size [dg (zAt R c)]
        have hs3 : (bs (txt ⟨ww, hh, R, C⟩ ww c) ++ bs [dg (zAt C c)]).size ≤ 200 := by rw [bs_append, bs_size]; simp; omega
        have hs4 : (bs (txt ⟨ww, hh, R, C⟩ ww c) ++ bs [dg (zAt C c)] ++ bs [dg (zAt R c)]).size ≤ 200 := by rw [bs_append, bs_append, bs_size]; simp; omega
        go_upto_region 9 with (fail)
        go_quiet ((go_at_call 88; exact num_quiet _ _ _ (by omega) (by omega)))
        have HY := Lib.hid (show txt ⟨ww, hh, R, C⟩ ww c ++ [dg (zAt C c), dg (zAt R c)] ++ (if (c + 1) % ww = 0 then [10] else []) = mtx ⟨ww, hh, R, C⟩ ww (c + 1) from by rw [mtx, HCT.out])
        by_cases hlast : x = ww - 1
        · have HZ := Lib.hid (show (c + 1) % ww = 0 from (succ_mod v1).2 (by rw [hx]; exact hlast))
          have hl1 : ((x : Int) == (ww : Int) - 1) = true := by simp; omega
          clear hx hlast
          go_wp2
          go_quiet (fail)
          go_wp2_with fail
          go_roundg (f + 1 - (c + 1))
          case measure => omega
          case rel =>
            refine ⟨c + 1, hcf', rfl, by go_num, ?_, (HST.out.drewN _)⟩
            rw [← HY.out, if_pos HZ.out]
            exact congrArg Value.string (by rw [bs_append, bs_append, show (⟨#[10]⟩ : ByteArray) = bs [10] from rfl, bs_append]; simp)
        · have HZ := Lib.hid (show ¬ (c + 1) % ww = 0 from fun h => hlast (by rw [← hx]; exact (succ_mod v1).1 h))
          have hl1 : ((x : Int) == (ww : Int) - 1) = false := by simp; omega
          clear hx hlast
          go_wp2
          go_quiet (fail)
          go_wp2_with fail
          go_roundg (f + 1 - (c + 1))
          case measure => omega
          case rel =>
            refine ⟨c + 1, hcf', rfl, by go_num, ?_, (HST.out.drewN _)⟩
            rw [← HY.out, if_neg HZ.out, List.append_nil]
            exact congrArg Value.string (by rw [bs_append, bs_append]; simp)
      · by_cases hz : zAt R c = 0
        · have hcf' : c + 1 ≤ f := by
            by_cases e : c = f
            · subst e
              rcases HE.out with h | h
              · omega
              · exact absurd (.inr hz) h
            · omega
          have HCT := Lib.hid (show cellT ⟨ww, hh, R, C⟩ c = [35, 35] from by unfold cellT; rw [if_neg ho])
          have ho' : decide (0 < zAt C c) = false := by simpa using ho
          have hz' : (zAt R c == 0) = true := by simpa using hz
          have hs3 : (bs (txt ⟨ww, hh, R, C⟩ ww c) ++ bs [35, 35]).size ≤ 200 := by rw [bs_append, bs_size]; simp; omega
          have e35 : (⟨#[35, 35]⟩ : ByteArray) = bs [35, 35] := rfl
          have hs5 : (bs [35, 35]).size = 2 := rfl
          clear hz
          have HY := Lib.hid (show txt ⟨ww, hh, R, C⟩ ww c ++ [35, 35] ++ (if (c + 1) % ww = 0 then [10] else []) = mtx ⟨ww, hh, R, C⟩ ww (c + 1) from by rw [mtx, HCT.out])
          by_cases hlast : x = ww - 1
          · have HZ := Lib.hid (show (c + 1) % ww = 0 from (succ_mod v1).2 (by rw [hx]; exact hlast))
            have hl1 : ((x : Int) == (ww : Int) - 1) = true := by simp; omega
            clear hx hlast
            go_wp2
            go_quiet (fail)
            go_wp2_with fail
            go_roundg (f + 1 - (c + 1))
            case measure => omega
            case rel =>
              refine ⟨c + 1, hcf', rfl, by go_num, ?_, (HST.out.drewN _)⟩
              rw [← HY.out, if_pos HZ.out]
              exact congrArg Value.string (by rw [bs_append, show (⟨#[10]⟩ : ByteArray) = bs [10] from rfl, bs_append])
          · have HZ := Lib.hid (show ¬ (c + 1) % ww = 0 from fun h => hlast (by rw [← hx]; exact (succ_mod v1).1 h))
            have hl1 : ((x : Int) == (ww : Int) - 1) = false := by simp; omega
            clear hx hlast
            go_wp2
            go_quiet (fail)
            go_wp2_with fail
            go_roundg (f + 1 - (c + 1))
            case measure => omega
            case rel =>
              refine ⟨c + 1, hcf', rfl, by go_num, ?_, (HST.out.drewN _)⟩
              rw [← HY.out, if_neg HZ.out, List.append_nil]
              exact congrArg Value.string (by rw [bs_append])

        · have hnt : ¬ HasT ⟨ww, hh, R, C⟩ c := fun h => by rcases h with h | h; exact ho h; exact hz h
          obtain rfl : c = f := by
            by_cases e : c = f
            · exact e
            · exact absurd (HA.out c (by omega)) hnt
          have ho' : decide (0 < zAt C c) = false := by simpa using ho
          have hz' : (zAt R c == 0) = false := by simpa using hz
          have HF := Lib.hid (show ¬ c = ww * hh by omega)
          clear hnt hz
          go_wp2
          go_ret2
          refine ⟨?_, HBR.out⟩
          rfl
    · obtain rfl : c = ww * hh := by omega
      obtain rfl : ww * hh = f := by omega
      have HX := Lib.hid (mtx_nl ⟨ww, hh, R, C⟩ ww (ww * hh) HNW.out)
      have hcC : ¬ ww * hh < C.length := by have := hCl.out; omega
      go_wp2
      go_ret2
      refine ⟨?_, HBR.out⟩
      rw [← HX.out]
      rfl

end Go.Proofs.Ytdphliobjafjaaa.TextS
