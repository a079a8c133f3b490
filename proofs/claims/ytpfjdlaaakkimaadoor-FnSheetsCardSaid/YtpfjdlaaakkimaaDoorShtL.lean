/- 'FnExactSheetText' answers as its model, at every argument: the walk of the law. -/
import Derived.Test.YtpfjdlaaakkimaaDoorShtS
import Derived.Test.YtpfjdlaaakkimaaDoorShtI
namespace Go.Proofs.YtpfjdlaaakkimaaDoor.ShtL
open Go.RowKit Lb Bk FtS FtL Fmt FsO ShtM
set_option linter.unusedSimpArgs false
set_option linter.unusedVariables false

set_option maxHeartbeats 2000000 in
theorem spec_none (a : Option Addr) (cap : Nat) (w : World) :
    Calls Tryd.prog 24 #[.slice a 0 cap] w fun e w' => e = .returned (.tuple #[.string ⟨#[]⟩, .bool true]) ∧ Below w.heap.size w w' := by
  go_enter Tryd.func24, Tryd.ntmps24
  go_wp2
  go_loopw [4, 5, 6] (fun s i _ wr => s = .string ⟨#[]⟩ ∧ i = .int .i64 0 ∧ wr = w) (fun _ _ _ _ => 0)
  case atStart => exact ⟨rfl, rfl, rfl⟩
  case round =>
    obtain ⟨rfl, rfl, rfl⟩ := hrel
    go_wp2
    go_ret2
    exact ⟨rfl, Below.refl _ _⟩

/-- The model and the program tell the same. -/
theorem both (n : Nat) (h : Nat → Ft) (hl : n ≤ 1048576) : ∃ (t : ByteArray) (ok : Bool),
    (∀ a cap w, FRow w a n h → Calls Tryd.prog 24 #[.slice a n cap] w fun e w' => e = .returned (.tuple #[.string t, .bool ok]) ∧ Below w.heap.size w w') ∧
    (∀ a cap w, FRow w a n h → Calls Tryd.prog 23 #[.slice a n cap] w fun e w' => e = .returned (.tuple #[.string t, .bool ok]) ∧ Below w.heap.size w w') := by
  by_cases h0 : n = 0
  · subst h0
    refine ⟨⟨#[]⟩, true, fun a cap w _ => spec_none a cap w, fun a cap w hr => ShtI.impl_loop a cap 0 0 h w hr (by omega) (Nat.le_refl _) (fun i hi => by omega) (fun e => by omega) _ _ (fun e => by omega) (fun _ => ⟨rfl, rfl⟩)⟩
  have hsp : ∀ (m : Nat) (t : ByteArray) (ok : Bool), m ≤ min n 21 → (∀ i, i < m → Gd h i) → (m < min n 21 → ¬ Gd h m) → (m < min n 21 ∨ 20 < n → t = ⟨#[]⟩ ∧ ok = false) → (m = min n 21 → n ≤ 20 → t = sh h n ∧ ok = true) →
      ∀ a cap w, FRow w a n h → Calls Tryd.prog 24 #[.slice a n cap] w fun e w' => e = .returned (.tuple #[.string t, .bool ok]) ∧ Below w.heap.size w w' := by
    intro m t ok h1 h2 h3 h4 h5 a cap w hr
    rcases hr with hr | ⟨b, off, rfl, hc⟩
    · exact absurd hr h0
    · exact ShtS.spec_loop b off cap n (min n 21) m h w (.inr ⟨b, off, rfl, hc⟩) hl rfl h1 h2 h3 t ok h4 h5
  by_cases h20 : 20 < n
  · by_cases hall : ∀ i, i < min n 21 → Gd h i
    · exact ⟨⟨#[]⟩, false, hsp (min n 21) _ _ (Nat.le_refl _) hall (fun e => absurd e (Nat.lt_irrefl _)) (fun _ => ⟨rfl, rfl⟩) (fun _ e => absurd e (by omega)), fun a cap w _ => ShtI.impl_long a cap n w h20 hl⟩
    · obtain ⟨m, hm, hb, hx⟩ := first_of hall
      exact ⟨⟨#[]⟩, false, hsp m _ _ (by omega) hb (fun _ => hx) (fun _ => ⟨rfl, rfl⟩) (fun _ e => absurd e (by omega)), fun a cap w _ => ShtI.impl_long a cap n w h20 hl⟩
  · have hmin : min n 21 = n := by omega
    by_cases hall : ∀ i, i < n → Gd h i
    · exact ⟨sh h n, true, hsp n _ _ (by omega) hall (fun e => absurd e (by omega)) (fun e => absurd e (by omega)) (fun _ _ => ⟨rfl, rfl⟩),
        fun a cap w hr => ShtI.impl_loop a cap n n h w hr (by omega) (Nat.le_refl _) hall (fun e => absurd e (Nat.lt_irrefl _)) _ _ (fun e => absurd e (Nat.lt_irrefl _)) (fun _ => ⟨rfl, rfl⟩)⟩
    · obtain ⟨m, hm, hb, hx⟩ := first_of hall
      exact ⟨⟨#[]⟩, false, hsp m _ _ (by omega) hb (fun _ => hx) (fun _ => ⟨rfl, rfl⟩) (fun e _ => absurd e (by omega)),
        fun a cap w hr => ShtI.impl_loop a cap n m h w hr (by omega) (by omega) hb (fun _ => hx) _ _ (fun _ => ⟨rfl, rfl⟩) (fun e => absurd e (by omega))⟩

set_option maxHeartbeats 2000000 in
theorem law_any (W : World) (ht : Tab W) (a : Option Addr) (n cap : Nat) (h : Nat → Ft) (hi : IsFs W a n h) :
    Calls Tryd.prog 7 #[.slice a n cap] W fun e w' => e = .returned (.bool true) ∧ Below W.heap.size W w' := by
  clear ht
  have hR := Lib.hid hi.R
  have hF := Lib.hid hi.f
  have hL := Lib.hid hi.l
  clear hi
  go_enter Tryd.func7, Tryd.ntmps7
  go_wp2_with fail
  refine (szS_any a cap n h _ _ hR.out hF.out hL.out (by decide) (by decide)).mono ?_
  rintro e w1 ⟨⟨r, rfl, hr⟩, hb1⟩
  have hB1 := Lib.hid hb1
  clear hb1
  rcases hr with rfl | ⟨h0, hr⟩
  · go_wp2
    go_ret
    exact ⟨rfl, hB1.out⟩
  have ht := totF_nn h n
  have hn : n ≤ 1048576 := by omega
  have hneg : decide (r < 0) = false := decide_eq_false (by omega)
  clear hr ht
  obtain ⟨t, ok, hS, hI⟩ := both n h hn
  have HS := Lib.hid hS
  have HI := Lib.hid hI
  clear hS hI
  go_wp2_with fail
  refine (toS_any a cap n h _ (hR.out.later hB1.out) hn).mono ?_
  rintro e w2 ⟨g2, rfl, ho2, -, hb2⟩
  have hB2 := Lib.hid (hB1.out.trans (hb2.mono hB1.out.size))
  clear hb2
  go_wp2_with fail
  refine (HS.out _ _ _ ho2.row).mono ?_
  rintro e w3 ⟨rfl, hb3⟩
  have hB3 := Lib.hid (hB2.out.trans (hb3.mono hB2.out.size))
  clear hb3 ho2
  go_wp2_with fail
  refine (toS_any a cap n h _ (hR.out.later hB3.out) hn).mono ?_
  rintro e w4 ⟨g4, rfl, ho4, -, hb4⟩
  have hB4 := Lib.hid (hB3.out.trans (hb4.mono hB3.out.size))
  have hO4 := Lib.hid ho4
  clear hb4 ho4
  go_wp2_with fail
  refine (HI.out _ _ _ hO4.out.row).mono ?_
  rintro e w5 ⟨rfl, hb5⟩
  have hB5 := Lib.hid (hB4.out.trans (hb5.mono hB4.out.size))
  have hO5 := Lib.hid (hO4.out.later hb5)
  clear hb5 hO4
  go_wp2_with fail
  refine (toS_any a cap n h _ (hR.out.later hB5.out) hn).mono ?_
  rintro e w7 ⟨g7, rfl, ho7, -, hb7⟩
  have hB7 := Lib.hid (hB5.out.trans (hb7.mono hB5.out.size))
  have hO7 := Lib.hid (hO5.out.later hb7)
  have hN7 := Lib.hid ho7
  clear hb7 ho7
  go_wp2_with fail
  refine (eqS_same _ _ _ _ n h _ hO7.out.row hN7.out.row hL.out).mono ?_
  rintro e w8 ⟨rfl, hb8⟩
  have hB8 := Lib.hid (hB7.out.trans (hb8.mono hB7.out.size))
  clear hb8
  go_wp2
  go_ret
  exact ⟨rfl, hB8.out⟩

end Go.Proofs.YtpfjdlaaakkimaaDoor.ShtL
