/- A sheet: the model. -/
import Derived.Test.YtpfjdlaaakkimaaDoorShtM
namespace Go.Proofs.YtpfjdlaaakkimaaDoor.ShtS
open Go.RowKit Lb Bk FtS FtL Fmt TxF ShtM
set_option linter.unusedSimpArgs false
set_option linter.unusedVariables false

/-- What stands between two rounds: the list. -/
structure Ls (w W : World) (a : Option Addr) (n : Nat) (h : Nat → Ft) : Prop where
  B : Below w.heap.size w W
  R : FRow W a n h
theorem Ls.later {w W W' : World} {a : Option Addr} {n : Nat} {h : Nat → Ft} (H : Ls w W a n h) (hb : Below W.heap.size W W') : Ls w W' a n h := ⟨H.B.trans (hb.mono H.B.size), H.R.later hb⟩
theorem Ls.drew {w W : World} {a : Option Addr} {n : Nat} {h : Nat → Ft} (H : Ls w W a n h) : Ls w W.drew a n h := ⟨H.B.drew, H.R⟩
theorem Ls.drewN {w W : World} {a : Option Addr} {n : Nat} {h : Nat → Ft} (H : Ls w W a n h) (q : Nat) : Ls w (W.drewN q) a n h := ⟨below_drewN H.B q, H.R⟩
theorem Ls.five {w W : World} {b off n : Nat} {h : Nat → Ft} (H : Ls w W (some ⟨b, off, none⟩) n h) {i : Nat} (hi : i < n) : W.cell? ⟨b, off + i * 5, none⟩ = some (.int .i64 (h i).c) ∧ W.cell? ⟨b, off + i * 5 + 1, none⟩ = some (.string (h i).wh) ∧ W.cell? ⟨b, off + i * 5 + 2, none⟩ = some (.string (h i).wt) ∧ W.cell? ⟨b, off + i * 5 + 3, none⟩ = some (.string (h i).lk) ∧ W.cell? ⟨b, off + i * 5 + 4, none⟩ = some (.string (h i).sd) := by
  obtain ⟨b', off', e, c⟩ := H.R.five hi
  cases e
  exact c

theorem five_f {w W : World} {b off n : Nat} {h : Nat → Ft} {i : Nat} {f : Ft} (e : h i = f) (H : Ls w W (some ⟨b, off, none⟩) n h) (hi : i < n) : W.cell? ⟨b, off + i * 5, none⟩ = some (.int .i64 f.c) ∧ W.cell? ⟨b, off + i * 5 + 1, none⟩ = some (.string f.wh) ∧ W.cell? ⟨b, off + i * 5 + 2, none⟩ = some (.string f.wt) ∧ W.cell? ⟨b, off + i * 5 + 3, none⟩ = some (.string f.lk) ∧ W.cell? ⟨b, off + i * 5 + 4, none⟩ = some (.string f.sd) := by
  subst e; exact H.five hi

set_option maxRecDepth 20000 in
set_option maxHeartbeats 8000000 in
theorem spec_loop (b off cap n M m : Nat) (h : Nat → Ft) (w : World) (hr : FRow w (some ⟨b, off, none⟩) n h) (hn : n ≤ 1048576) (hM : M = min n 21) (hm : m ≤ M) (hok : ∀ i, i < m → Gd h i) (hbad : m < M → ¬ Gd h m) (t : ByteArray) (ok : Bool) (hz1 : m < M ∨ 20 < n → t = ⟨#[]⟩ ∧ ok = false) (hz2 : m = M → n ≤ 20 → t = sh h n ∧ ok = true) :
    Calls Tryd.prog 24 #[.slice (some ⟨b, off, none⟩) n cap] w fun e w' => e = .returned (.tuple #[.string t, .bool ok]) ∧ Below w.heap.size w w' := by
  have HZ1 := Lib.hid hz1
  have HZ2 := Lib.hid hz2
  have H := Lib.hid (show Ls w w (some ⟨b, off, none⟩) n h from ⟨Below.refl _ _, hr⟩)
  have HO := Lib.hid hok
  have HM := Lib.hid hbad
  clear hr hok hbad hz1 hz2
  go_enter Tryd.func24, Tryd.ntmps24
  go_wp2
  go_loopw [4, 5, 6] (fun s i _ wr => ∃ k : Nat, k ≤ m ∧ i = .int .i64 k ∧ s = .string (sh h k) ∧ Ls w wr (some ⟨b, off, none⟩) n h) (fun _ i _ _ => M - (intOf i).toNat)
  case atStart => exact ⟨0, Nat.zero_le _, rfl, rfl, H.out⟩
  case round =>
    obtain ⟨k, hk, rfl, rfl, hc⟩ := hrel
    have HC := Lib.hid hc
    clear hc H
    by_cases hlt : k < M
    · have hkn : k < n := by omega
      have hk20 : k ≤ 20 := by omega
      obtain ⟨f, hf⟩ : ∃ f, h k = f := ⟨_, rfl⟩
      have HF := Lib.hid hf
      obtain ⟨c0, c1, c2, c3, c4⟩ := HC.out.five hkn
      rw [hf] at c0 c1 c2 c3 c4
      clear hf
      by_cases hokk : okF f = true
      · have HOF := Lib.hid (of_decide_eq_true (p := OkF f) hokk)
        by_cases hdup : ∀ j, j < k → (h j).c ≠ (h k).c
        · have hkm : k < m := by
            rcases Nat.lt_or_ge k m with h1 | h1
            · exact h1
            · obtain rfl : k = m := by omega
              exact absurd ⟨by rw [HF.out]; exact hokk, hdup⟩ (HM.out hlt)
          have HD := Lib.hid hdup
          clear hdup
          go_wp2_with fail
          refine (SpO.spec_any f _).mono ?_
          rw [hokk]
          rintro e w3 ⟨rfl, hb3⟩
          have HC3 := Lib.hid (HC.out.later hb3)
          clear hb3 c0 c1 c2 c3 c4 hokk
          go_wp2
          go_loopw [6] (fun j wr' => ∃ q : Nat, q ≤ k ∧ j = .int .i64 q ∧ Ls w wr' (some ⟨b, off, none⟩) n h) (fun j _ => k - (intOf j).toNat)
          case atStart => exact ⟨0, Nat.zero_le _, rfl, HC3.out⟩
          case round =>
            obtain ⟨q, hq, rfl, hc'⟩ := hrel
            have HQ := Lib.hid hc'
            clear hc' HC3 HC
            by_cases hqk : q < k
            · obtain ⟨d0, -⟩ := HQ.out.five (show q < n by omega)
              obtain ⟨e0, -⟩ := HQ.out.five hkn
              have hne : ((h q).c == (h k).c) = false := by simpa using HD.out q hqk
              go_wp2
              go_quiet (fail)
              go_wp2
              go_roundw
              case rel => exact ⟨q + 1, by omega, by go_num, HQ.out.drewN _⟩
              case measure => simp [intOf]; omega
            · obtain rfl : q = k := by omega
              have hsz := sh_size (fun i hi => HO.out i (by omega)) (show q ≤ 1000 by omega)
              have hd7 := dec_le q (by omega)
              have hc7 := cod_size HOF.out
              have ht7 := txF_size HOF.out.short
              have k1 : (9223372036854775807 < (sh h q).size + (dec (q + 1)).size) = False := by simp only [eq_iff_iff, iff_false]; omega
              have k2 : (9223372036854775807 < (sh h q).size + (dec (q + 1)).size + 2) = False := by simp only [eq_iff_iff, iff_false]; omega
              have k3 : (9223372036854775807 < (sh h q).size + (dec (q + 1)).size + 2 + (cod f).size) = False := by simp only [eq_iff_iff, iff_false]; omega
              have k4 : (9223372036854775807 < (sh h q).size + (dec (q + 1)).size + 2 + (cod f).size + (txF f).size) = False := by simp only [eq_iff_iff, iff_false]; omega
              have k5 : (9223372036854775807 < (sh h q).size + (dec (q + 1)).size + 2 + (cod f).size + (txF f).size + 1) = False := by simp only [eq_iff_iff, iff_false]; omega
              have hwr : IntKind.i64.wrap ((q : Int) + 1) = (q : Int) + 1 := IntWalk.i64_in _ (by omega)
              have HSZ := Lib.hid hsz
              clear hsz hd7 hc7 ht7
              have HX := HQ
              obtain ⟨c0, c1, c2, c3, c4⟩ := HX.out.five hkn
              rw [HF.out] at c0 c1 c2 c3 c4
              have HS := HX
              have hi0 : (0 : Int) ≤ (q : Int) := by omega
              have hi1 : (q : Int) < (n : Int) := by omega
              have HSH := Lib.hid (show sh h (q + 1) = sh h q ++ dec (q + 1) ++ (⟨#[46, 32]⟩ : ByteArray) ++ cod f ++ txF f ++ (⟨#[10]⟩ : ByteArray) from by rw [sh, ln, HF.out]; simp only [app_assoc])
              go_wp2
              go_region_held3 (fun W : World => W.cell? ⟨b, off + q * 5, none⟩ = some (.int .i64 f.c) ∧ W.cell? ⟨b, off + q * 5 + 1, none⟩ = some (.string f.wh) ∧ W.cell? ⟨b, off + q * 5 + 2, none⟩ = some (.string f.wt) ∧ W.cell? ⟨b, off + q * 5 + 3, none⟩ = some (.string f.lk) ∧ W.cell? ⟨b, off + q * 5 + 4, none⟩ = some (.string f.sd)) (first | with_reducible exact five_f HF.out HS.out hkn | with_reducible exact five_f HF.out HS.out.drew hkn) (first
                | (go_at_call 45; have HD1 := Lib.hid HT1.out; refine (num_f f HOF.out _).mono ?_; rintro e w5 ⟨rfl, hst⟩; have HS5 := Lib.hid (show Ls w w5 (some ⟨b, off, none⟩) n h from by first | exact HS.out.later (hst.below _) | exact HS.out.drew.later (hst.below _)); clear hst; have HS := HS5)
                | (go_at_call 45; rw [show ((q : Int) + 1) = ((q + 1 : Nat) : Int) from rfl]; refine (num_n q (by omega) _).mono ?_; rintro e w5 ⟨rfl, hst⟩; have HS5 := Lib.hid (show Ls w w5 (some ⟨b, off, none⟩) n h from by first | exact HS.out.later (hst.below _) | exact HS.out.drew.later (hst.below _)); clear hst; have HS := HS5; have HT1 := Lib.hid True.intro)
                | (go_at_call 46; refine (Txt.spec_text f HOF.out.short _).mono ?_; rintro e w5 ⟨rfl, hb5⟩; have HS5 := Lib.hid (show Ls w w5 (some ⟨b, off, none⟩) n h from by first | exact HS.out.later hb5 | exact HS.out.drew.later hb5); clear hb5; have HS := HS5))
              all_goals go_wp2
              all_goals go_roundw
              all_goals first
                | exact ⟨q + 1, by omega, by go_num, by rw [HSH.out], HS.out⟩
                | (simp [intOf]; omega)
        · obtain ⟨j0, hj0, hjb, hjx⟩ := first_of (p := fun j => (h j).c ≠ (h k).c) hdup
          have hjx' : (h j0).c = (h k).c := by simpa using hjx
          have hkm : ¬ k < m := fun hkm => (HO.out k hkm).2 j0 hj0 hjx'
          obtain rfl : k = m := by omega
          obtain ⟨ez, eo⟩ := HZ1.out (.inl hlt)
          have HE := Lib.hid ez
          have HE' := Lib.hid eo
          have HJ := Lib.hid hjb
          have HJX := Lib.hid hjx'
          clear ez eo hjb hjx hjx' hdup
          go_wp2_with fail
          refine (SpO.spec_any f _).mono ?_
          rw [hokk]
          rintro e w3 ⟨rfl, hb3⟩
          have HC3 := Lib.hid (HC.out.later hb3)
          clear hb3 c0 c1 c2 c3 c4 hokk
          go_wp2
          go_loopw [6] (fun j wr' => ∃ q : Nat, q ≤ j0 ∧ j = .int .i64 q ∧ Ls w wr' (some ⟨b, off, none⟩) n h) (fun j _ => k - (intOf j).toNat)
          case atStart => exact ⟨0, Nat.zero_le _, rfl, HC3.out⟩
          case round =>
            obtain ⟨q, hq, rfl, hc'⟩ := hrel
            have HQ := Lib.hid hc'
            clear hc' HC3 HC
            have hqk : q < k := by omega
            obtain ⟨d0, -⟩ := HQ.out.five (show q < n by omega)
            obtain ⟨e0, -⟩ := HQ.out.five hkn
            by_cases hqj : q < j0
            · have hne : ((h q).c == (h k).c) = false := by simpa using HJ.out q hqj
              go_wp2
              go_quiet (fail)
              go_wp2
              go_roundw
              case rel => exact ⟨q + 1, by omega, by go_num, HQ.out.drewN _⟩
              case measure => simp [intOf]; omega
            · obtain rfl : q = j0 := by omega
              have hne : ((h q).c == (h k).c) = true := by simpa using HJX.out
              go_wp2
              go_quiet (fail)
              go_wp2
              go_ret2
              exact ⟨by rw [HE.out, HE'.out]; rfl, (HQ.out.drewN _).B⟩
      · have hok' : okF f = false := by simpa using hokk
        have hkm : ¬ k < m := fun hkm => hokk (by rw [← HF.out]; exact (HO.out k hkm).1)
        obtain rfl : k = m := by omega
        obtain ⟨ez, eo⟩ := HZ1.out (.inl hlt)
        have HE := Lib.hid ez
        have HE' := Lib.hid eo
        clear ez eo hokk
        go_wp2_with fail
        refine (SpO.spec_any f _).mono ?_
        rw [hok']
        rintro e w3 ⟨rfl, hb3⟩
        have HC3 := Lib.hid (HC.out.later hb3)
        clear hb3 c0 c1 c2 c3 c4 hok'
        go_wp2
        go_ret2
        exact ⟨by rw [HE.out, HE'.out]; rfl, HC3.out.B⟩
    · obtain rfl : k = M := by omega
      obtain rfl : k = m := by omega
      by_cases h20 : 20 < n
      · obtain ⟨ez, eo⟩ := HZ1.out (.inr h20)
        have HE := Lib.hid ez
        have HE' := Lib.hid eo
        have hk21 : 20 < k := by omega
        have hd20 : decide ((k : Int) ≤ 20) = false := decide_eq_false (by omega)
        clear ez eo
        by_cases hkn : k < n
        · clear hM
          go_wp2
          go_ret2
          exact ⟨by rw [HE.out, HE'.out]; rfl, HC.out.B⟩
        · clear hM
          go_wp2
          go_ret2
          exact ⟨by rw [HE.out, HE'.out]; rfl, HC.out.B⟩
      · obtain rfl : k = n := by omega
        obtain ⟨ez, eo⟩ := HZ2.out rfl (by omega)
        have HE := Lib.hid ez
        have HE' := Lib.hid eo
        clear ez eo hM
        go_wp2
        go_ret2
        exact ⟨by rw [HE.out, HE'.out]; rfl, HC.out.B⟩

end Go.Proofs.YtpfjdlaaakkimaaDoor.ShtS
