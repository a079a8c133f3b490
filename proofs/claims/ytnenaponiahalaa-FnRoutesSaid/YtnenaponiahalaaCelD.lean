/- A drawn cell: its contract. -/
import Derived.Test.YtnenaponiahalaaCodM
import Derived.Test.YtnenaponiahalaaStepT
namespace Go.Proofs.Ytnenaponiahalaa.DrwM
open Go.RowKit Lb Cur IntS MapS MapV SpecB CurM CodM
set_option linter.unusedSimpArgs false
set_option linter.unusedVariables false

set_option maxHeartbeats 1000000 in
theorem cellb_any (b mm : Nat) (m : Mp) (ar ac : Option Addr) (cr cc : Nat) (w : World) (hm : mm ≤ 1152921504606846000) (hC : m.C.length ≤ 21) (hok : Ok w b mm) :
    Calls Try.prog 140 #[.pointer (some ⟨b, 0, none⟩), .agg #[.int .i64 m.W, .int .i64 m.H, .slice ar m.R.length cr, .slice ac m.C.length cc]] w fun e w' => (∃ z : Int, e = .returned (.int .i64 z) ∧ -1 ≤ z ∧ z ≤ 21) ∧ Ok w' b (mm + 4) ∧ w.grownBy w' (some b) := by
  have hbl := hok.lt
  have HB := Lib.hid ((Below.refl w.heap.size w).alloc (Nat.le_refl _) (.cells #[.int .i64 m.W, .int .i64 m.H, .slice ar m.R.length cr, .slice ac m.C.length cc] 26))
  obtain ⟨N, hN⟩ : ∃ N : Int, StepT.mostOf 1 (m.C.length : Int) = N := ⟨_, rfl⟩
  have hN1 : 1 ≤ N ∧ N ≤ 21 := by have := StepT.mostOf_eq 1 (m.C.length : Int); omega
  have HN := Lib.hid hN
  have c1 := Lib.hid (pick_any b mm (N + 1) _ (by omega) (by omega) (by omega) (hok.below HB.out))
  clear hok
  clear hN
  go_enter Try.func140, Try.ntmps140
  go_wp2_with fail
  refine (StepT.most_any _ _ _).mono ?_
  rintro e w1 ⟨rfl, rfl⟩
  rw [HN.out]
  go_wp2_with fail
  refine c1.out.mono ?_
  rintro e w2 ⟨⟨r1, rfl, hr1, hr1'⟩, hok2, hg2⟩
  have HA1 := Lib.hid (show r1 ≤ 21 from by omega)
  clear hr1'
  have HG2 := Lib.hid (gtrans (gbelow HB.out (some b)) hg2)
  have c2 := Lib.hid (pick_any b (mm + 2) 9 _ (by omega) (by omega) (by omega) hok2)
  clear hok2 hg2
  go_wp2_with fail
  refine c2.out.mono ?_
  rintro e w3 ⟨⟨r2, rfl, hr2, hr2'⟩, hok3, hg3⟩
  have HA2 := Lib.hid (show r2 ≤ 8 from by omega)
  clear hr2'
  have HG3 := Lib.hid (gtrans HG2.out hg3)
  have HO3 := Lib.hid hok3
  clear hok3 hg3
  go_wp2_with fail
  go_ret
  have h1 := HA1.out
  have h2 := HA2.out
  exact ⟨⟨_, rfl, by omega, by omega⟩, HO3.out, HG3.out⟩

theorem cell_any (b mm : Nat) (m : Mp) (ar ac : Option Addr) (cr cc : Nat) (w : World) (hm : mm ≤ 1152921504606846000) (hC : m.C.length ≤ 21) (hok : Ok w b mm) :
    Calls Try.prog 140 #[.pointer (some ⟨b, 0, none⟩), .agg #[.int .i64 m.W, .int .i64 m.H, .slice ar m.R.length cr, .slice ac m.C.length cc]] w fun e w' => (∃ z : Int, e = .returned (.int .i64 z)) ∧ Ok w' b (mm + 4) ∧ w.grownBy w' (some b) :=
  (cellb_any b mm m ar ac cr cc w hm hC hok).mono fun e w' ⟨⟨z, h, _⟩, h2⟩ => ⟨⟨z, h⟩, h2⟩

end Go.Proofs.Ytnenaponiahalaa.DrwM
